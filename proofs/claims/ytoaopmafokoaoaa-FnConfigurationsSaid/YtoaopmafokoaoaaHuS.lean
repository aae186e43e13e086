/- Equations of Hurwitz: contracts of the model's tests: huGiven, huSquares, huProduct, huGood, IsHurwitz. -/
import Derived.Test.YtoaopmafokoaoaaHuHT
import Derived.Test.YtoaopmafokoaoaaBasB
namespace Go.Proofs.Ytoaopmafokoaoaa
open Go.RowKit

theorem huGiven_any (a b : Int) (w : World) : Calls Try.prog 53 #[.int .i64 a, .int .i64 b] w fun e w' => e = .returned (.bool (givenB a b)) ∧ w = w' := by
  cases h1 : within 1 20 a
  · have H1 := hid h1; clear h1
    go_enter Try.func53, Try.ntmps53
    go_wp2_with fail
    refine (l1In_as _ _ _ _ _ H1.out).mono ?_
    rintro e w' ⟨rfl, rfl⟩
    go_wp2_with fail
    go_ret
    exact ⟨ret_bool (by unfold givenB; rw [H1.out]; rfl), rfl⟩
  · have H1 := hid h1; clear h1
    go_enter Try.func53, Try.ntmps53
    go_wp2_with fail
    refine (l1In_as _ _ _ _ _ H1.out).mono ?_
    rintro e w' ⟨rfl, rfl⟩
    go_wp2_with fail
    refine (l1In_any _ _ _ _).mono ?_
    rintro e w' ⟨rfl, rfl⟩
    go_wp2_with fail
    go_ret
    exact ⟨ret_bool (by unfold givenB; rw [H1.out]; rfl), rfl⟩
theorem huGiven_as (a b : Int) (o : Bool) (w : World) (h : givenB a b = o) : Calls Try.prog 53 #[.int .i64 a, .int .i64 b] w fun e w' => e = .returned (.bool o) ∧ w = w' := by
  subst h; exact huGiven_any a b w

theorem sq_bd {z : Int} (h : 1 ≤ z ∧ z ≤ 100000) : 1 ≤ z * z ∧ z * z ≤ 10000000000 := by
  have h1 := Int.mul_le_mul h.1 h.1 (by omega) (by omega)
  have h2 := Int.mul_le_mul h.2 h.2 (by omega) (by omega)
  omega
theorem getElem_in5 {zs : List Int} (h : In5 zs) (k : Nat) (hk : k < zs.length) : 1 ≤ zs[k] ∧ zs[k] ≤ 100000 := h _ (List.getElem_mem hk)
set_option maxHeartbeats 400000 in
theorem huSquares_any (v : Value) (zs : List Int) (w : World) (h5 : In5 zs) (h4 : zs.length ≤ 4) (h : Ints w v zs) :
    Calls Try.prog 97 #[v] w fun e w' => e = .returned (.int .i64 (sqs zs)) ∧ w = w' := by
  obtain ⟨a, cap, rfl, hl, hc⟩ := h
  have HC := hid hc
  have H5 := hid h5
  clear hc h5
  go_enter Try.func97, Try.ntmps97
  go_wp2
  go_loop [3, 8] (fun s i => ∃ k : Nat, k ≤ zs.length ∧ i = .int .i64 k ∧ s = .int .i64 (sqs (zs.take k))) (fun _ i => zs.length - (intOf i).toNat)
  case atStart => exact ⟨0, Nat.zero_le _, rfl, rfl⟩
  case round =>
    obtain ⟨k, hk, rfl, rfl⟩ := hrel
    by_cases hlt : k < zs.length
    · obtain ⟨ad, rfl, hcell⟩ := HC.out k hlt
      simp only [getD_at zs k hlt] at hcell
      obtain ⟨z1, z2⟩ := getElem_in5 H5.out k hlt
      obtain ⟨q1, q2⟩ := sq_bd ⟨z1, z2⟩
      obtain ⟨s1, s2⟩ := sqs_bd (H5.out.take k)
      have ht : (zs.take k).length ≤ 4 := by rw [List.length_take]; omega
      have HS := hid (show sqs (zs.take (k + 1)) = sqs (zs.take k) + zs[k] * zs[k] by rw [take_snoc zs k hlt, sqs_snoc])
      go_wp2
      go_round
      case rel => exact ⟨k + 1, hlt, by go_num, by rw [HS.out]⟩
      case measure => simp [intOf]; omega
    · go_wp2
      go_ret
      exact ⟨ret_int (by rw [take_all zs k (by omega)]), rfl⟩
set_option maxHeartbeats 400000 in
theorem huProduct_any (v : Value) (zs : List Int) (a : Int) (w : World) (ha : 1 ≤ a ∧ a ≤ 20) (h5 : In5 zs) (h : Ints w v zs) :
    Calls Try.prog 98 #[v, .int .i64 a] w fun e w' => e = .returned (.int .i64 (capP a zs)) ∧ w = w' := by
  obtain ⟨p, cap, rfl, hl, hc⟩ := h
  have HC := hid hc
  have H5 := hid h5
  have HA := hid ha
  clear hc h5
  go_enter Try.func98, Try.ntmps98
  go_wp2
  go_loop [5, 11] (fun s i => ∃ k : Nat, k ≤ zs.length ∧ i = .int .i64 k ∧ s = .int .i64 (capP a (zs.take k))) (fun _ i => zs.length - (intOf i).toNat)
  case atStart => exact ⟨0, Nat.zero_le _, rfl, rfl⟩
  case round =>
    obtain ⟨k, hk, rfl, rfl⟩ := hrel
    by_cases hlt : k < zs.length
    · obtain ⟨ad, rfl, hcell⟩ := HC.out k hlt
      simp only [getD_at zs k hlt] at hcell
      obtain ⟨z1, z2⟩ := getElem_in5 H5.out k hlt
      obtain ⟨s1, s2⟩ := capP_bd (zs.take k) a HA.out.1 (by have := HA.out; omega) (H5.out.take k)
      have q1 : 1 ≤ capP a (zs.take k) * zs[k] := by have := Int.mul_le_mul s1 z1 (by omega) (by omega); omega
      have q2 : capP a (zs.take k) * zs[k] ≤ 100000000000000000 := by have := Int.mul_le_mul s2 z2 (by omega) (by omega); omega
      have HS := hid (show capP a (zs.take (k + 1)) = leastI (capP a (zs.take k) * zs[k]) 1000000000000 by rw [take_snoc zs k hlt, capP_snoc])
      go_wp2_with (first | (go_at_call 129; refine (l1Least_any _ _ _).mono ?_; rintro e w' ⟨rfl, rfl⟩))
      go_round
      case rel => exact ⟨k + 1, hlt, by go_num, by rw [HS.out]⟩
      case measure => simp [intOf]; omega
    · go_wp2
      go_ret
      exact ⟨ret_int (by rw [take_all zs k (by omega)]), rfl⟩

theorem add_at' (a : Addr) (i : Nat) : a.add (i + 1) = ⟨a.block, a.off + (i + 1), none⟩ := by unfold Addr.add; simp
theorem all_within5 {zs : List Int} (h : zs.all (within 1 100000) = true) : In5 zs := fun z hz => within5.1 (List.all_eq_true.1 h z hz)
/-- so far no number is greater than the one before it -/
def fallTo (zs : List Int) (k : Nat) : Prop := ∀ i, i + 1 < k → zs.getD (i + 1) 0 ≤ zs.getD i 0
theorem fallTo_dn : ∀ (zs : List Int), (∀ i, i + 1 < zs.length → zs.getD (i + 1) 0 ≤ zs.getD i 0) → Dn zs := by
  intro zs
  induction zs with
  | nil => intro _; exact List.Pairwise.nil
  | cons z zs ih =>
    intro h
    have h1 : Dn zs := ih fun i hi => by
      have := h (i + 1) (by simpa using hi)
      simpa using this
    refine List.pairwise_cons.2 ⟨?_, h1⟩
    cases zs with
    | nil => intro y hy; simp at hy
    | cons x xs =>
      have h2 : x ≤ z := by simpa using h 0 (by simp)
      intro y hy
      rcases List.mem_cons.1 hy with rfl | hy
      · exact h2
      · have := (List.pairwise_cons.1 h1).1 y hy; omega
theorem fallB_of {zs : List Int} (h5 : In5 zs) (h : fallTo zs zs.length) : fallB 100000 zs = true :=
  (fallB_iff (by omega)).2 ⟨fallTo_dn zs h, h5⟩
theorem fallB_no {zs : List Int} (k : Nat) (h1 : 1 ≤ k) (hk : k < zs.length) (h : zs.getD (k - 1) 0 < zs.getD k 0) : fallB 100000 zs = false := by
  cases hf : fallB 100000 zs
  · rfl
  · have h2 := ((fallB_iff (by omega)).1 hf).1
    have h3 := List.pairwise_iff_getElem.1 h2 (k - 1) k (by omega) hk (by omega)
    have e1 : zs.getD (k - 1) 0 = zs[k - 1] := by simp [show k - 1 < zs.length by omega]
    have e2 : zs.getD k 0 = zs[k] := by simp [hk]
    omega
set_option maxRecDepth 20000 in
set_option maxHeartbeats 2000000 in
theorem huGood_any (v : Value) (zs : List Int) (a b : Int) (w : World) (hg : givenB a b = true) (h : Ints w v zs) :
    Calls Try.prog 54 #[v, .int .i64 a, .int .i64 b] w fun e w' => e = .returned (.bool (solB zs a b)) ∧ Later w w' := by
  have HG := hid (givenB_iff.1 hg)
  have H := hid h
  obtain ⟨p, cap, rfl, hl, hc⟩ := h
  have HC := hid hc
  clear hc hg
  cases hL : lenB zs
  · have HLB := hid hL
    have HSOL := hid (show solB zs a b = false by unfold solB; rw [hL]; rfl)
    clear hL
    go_enter Try.func54, Try.ntmps54
    go_wp2_with fail
    refine (l1In_as _ _ _ _ _ HLB.out).mono ?_
    rintro e w' ⟨rfl, rfl⟩
    go_wp2_with fail
    go_ret
    exact ⟨ret_bool HSOL.out.symm, Later.refl _⟩
  · have HLB := hid hL
    have HLN := hid (lenB_iff.1 hL)
    clear hL
    cases hA : zs.all (within 1 100000)
    · have HA := hid hA
      have HSOL := hid (show solB zs a b = false by
        cases hf : fallB 100000 zs
        · unfold solB; rw [hf]; simp
        · have h5 := fallB_in5 (by omega) hf
          rw [List.all_eq_false] at hA
          obtain ⟨z, hz, hz2⟩ := hA
          exact absurd (within5.2 (h5 z hz)) hz2)
      clear hA
      go_enter Try.func54, Try.ntmps54
      go_wp2_with fail
      refine (l1In_as _ _ _ _ _ HLB.out).mono ?_
      rintro e w' ⟨rfl, rfl⟩
      go_wp2_with fail
      refine (l1All_as _ zs _ _ _ _ HA.out H.out).mono ?_
      rintro e w' ⟨rfl, rfl⟩
      go_wp2_with fail
      go_ret
      exact ⟨ret_bool HSOL.out.symm, Later.refl _⟩
    · have HA := hid hA
      have H5 := hid (all_within5 hA)
      clear hA
      go_enter Try.func54, Try.ntmps54
      go_wp2_with fail
      refine (l1In_as _ _ _ _ _ HLB.out).mono ?_
      rintro e w' ⟨rfl, rfl⟩
      go_wp2_with fail
      refine (l1All_as _ zs _ _ _ _ HA.out H.out).mono ?_
      rintro e w' ⟨rfl, rfl⟩
      go_wp2_with fail
      have hl0 : 3 ≤ zs.length := by have := HLN.out; omega
      go_loopw [7] (fun i wr => ∃ (k n : Nat), 1 ≤ k ∧ k ≤ zs.length ∧ i = .int .i64 k ∧ fallTo zs k ∧ wr = w.drewN n) (fun i _ => zs.length - (intOf i).toNat)
      case atStart => exact ⟨1, 0, by omega, by omega, rfl, fun i hi => by omega, rfl⟩
      case round =>
        obtain ⟨k, n, hk1, hk, rfl, hf, rfl⟩ := hrel
        have HF := hid hf
        clear hf
        by_cases hlt : k < zs.length
        · obtain ⟨ad, rfl, hcell⟩ := HC.out k hlt
          obtain ⟨ad', e1, hcell1⟩ := HC.out (k - 1) (by omega)
          obtain rfl : ad = ad' := by simpa using e1
          clear e1
          obtain ⟨x, hx⟩ : ∃ x, zs.getD k 0 = x := ⟨_, rfl⟩
          obtain ⟨y, hy⟩ : ∃ y, zs.getD (k - 1) 0 = y := ⟨_, rfl⟩
          rw [hx] at hcell
          rw [hy] at hcell1
          have d0 := hcell
          have d1 := hcell1
          have HX := hid hx
          have HY := hid hy
          clear hx hy hcell hcell1
          obtain ⟨j, rfl⟩ : ∃ j, k = j + 1 := ⟨k - 1, by omega⟩
          simp only [Nat.add_sub_cancel] at d1 HY
          rw [add_at'] at d0
          have i1 : IntKind.i64.wrap ((j : Int) + 1 - 1) = (j : Int) := by rw [show (j : Int) + 1 - 1 = (j : Int) by omega, IntWalk.i64_left]; exact IntWalk.wrap64_in _ (by omega)
          have i2 : IntKind.i64.wrap (j : Int) = (j : Int) := by rw [IntWalk.i64_left]; exact IntWalk.wrap64_in _ (by omega)
          have i3 : ((j : Int) + 1).toNat = j + 1 := by omega
          have i4 : (0 : Int) ≤ (j : Int) + 1 := by omega
          have i5 : (j : Int) + 1 < (zs.length : Int) := by omega
          have i6 : (j : Int) < (zs.length : Int) := by omega
          by_cases hgt : y < x
          · have HSOL := hid (show solB zs a b = false by unfold solB; rw [fallB_no (j + 1) (by omega) hlt (by rw [HX.out, show j + 1 - 1 = j by omega, HY.out]; exact hgt)]; simp)
            go_wp2_with fail
            go_quiet (fail)
            go_wp2_with fail
            go_ret
            exact ⟨ret_bool HSOL.out.symm, by first | exact Later.drewN _ _ | exact (Later.drewN _ _).trans (Later.drewN _ _)⟩
          · have HF2 := hid (show fallTo zs (j + 2) from fun i hi => by
              by_cases e : i = j
              · subst e; rw [HX.out, HY.out]; omega
              · exact HF.out i (by omega))
            go_wp2_with fail
            go_quiet (fail)
            clear i1 i2 i3
            go_wp2_with fail
            go_roundw
            case rel => exact ⟨j + 2, n + nq, by omega, by omega, by go_num, HF2.out, by simp⟩
            case measure => simp [intOf]; omega
        · have HS := hid (cap_test HG.out.1 HG.out.2 HLN.out H5.out)
          have HB := hid (fallB_of H5.out (fun i hi => HF.out i (by omega)))
          go_wp2_with fail
          refine (huSquares_any _ zs _ H5.out (by have := HLN.out; omega) (H.out.later (Later.drewN w n))).mono ?_
          rintro e w' ⟨rfl, rfl⟩
          go_wp2_with fail
          refine (huProduct_any _ zs a _ HG.out.1 H5.out (H.out.later (Later.drewN w n))).mono ?_
          rintro e w' ⟨rfl, rfl⟩
          have ⟨c1, c2⟩ := capP_bd zs a HG.out.1.1 (by have := HG.out; omega) H5.out
          have ⟨c3, c4⟩ := HG.out.2
          go_wp2_with fail
          go_ret
          exact ⟨ret_bool (by unfold solB; rw [HLB.out, HB.out, ← HS.out]; rfl), Later.drewN _ _⟩
theorem huGood_as (v : Value) (zs : List Int) (a b : Int) (o : Bool) (w : World) (hg : givenB a b = true) (ho : solB zs a b = o) (h : Ints w v zs) :
    Calls Try.prog 54 #[v, .int .i64 a, .int .i64 b] w fun e w' => e = .returned (.bool o) ∧ Later w w' := by
  subst ho; exact huGood_any v zs a b w hg h
def isHuAns (zs : List Int) (a b : Int) : Option Bool := if givenB a b = true then some (solB zs a b) else none
end Go.Proofs.Ytoaopmafokoaoaa
