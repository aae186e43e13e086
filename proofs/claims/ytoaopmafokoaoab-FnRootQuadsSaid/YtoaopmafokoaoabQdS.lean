/- Four curvatures: the model's test of a quad, its sum, a swap, the index of the swap down. -/
import Derived.Test.YtoaopmafokoaoabQd
import Derived.Test.YtoaopmafokoaoabBasB
import Derived.Test.YtoaopmafokoaoabRowsKI
import Derived.Deep.RegionHeld3
namespace Go.Proofs.Ytoaopmafokoaoab
open Go.RowKit

theorem Ints.four {w : World} {v : Value} {a b c d : Int} (h : Ints w v [a, b, c, d]) :
    ∃ ad cap, v = .slice (some ad) 4 cap ∧ w.cell? ad = some (.int .i64 a) ∧ w.cell? ⟨ad.block, ad.off + 1, none⟩ = some (.int .i64 b) ∧ w.cell? ⟨ad.block, ad.off + 2, none⟩ = some (.int .i64 c) ∧ w.cell? ⟨ad.block, ad.off + 3, none⟩ = some (.int .i64 d) := by
  obtain ⟨p, cap, rfl, hl, hc⟩ := h
  obtain ⟨ad, rfl, h0⟩ := hc 0 (by simp)
  obtain ⟨ad1, e1, h1⟩ := hc 1 (by simp)
  obtain ⟨ad2, e2, h2⟩ := hc 2 (by simp)
  obtain ⟨ad3, e3, h3⟩ := hc 3 (by simp)
  obtain rfl : ad = ad1 := by simpa using e1
  obtain rfl : ad = ad2 := by simpa using e2
  obtain rfl : ad = ad3 := by simpa using e3
  exact ⟨ad, cap, rfl, by simpa [Addr.add] using h0, by simpa [Addr.add] using h1, by simpa [Addr.add] using h2, by simpa [Addr.add] using h3⟩
theorem sumQ_bd (zs : List Int) (h : ∀ z ∈ zs, -100000 ≤ z ∧ z ≤ 100000) : -(100000 * (zs.length : Int)) ≤ zs.sum ∧ zs.sum ≤ 100000 * (zs.length : Int) := by
  induction zs with
  | nil => simp
  | cons z zs ih =>
    have h1 := h z (by simp)
    have h2 := ih fun x hx => h x (by simp [hx])
    simp only [List.sum_cons, List.length_cons]
    omega
theorem sqQ_bd {z : Int} (h : -100000 ≤ z ∧ z ≤ 100000) : 0 ≤ z * z ∧ z * z ≤ 10000000000 := by
  have h0 := sq_nn z
  rcases Int.le_total 0 z with hz | hz
  · have := Int.mul_le_mul h.2 h.2 hz (by omega); omega
  · have := Int.mul_le_mul (show -z ≤ 100000 by omega) (show -z ≤ 100000 by omega) (by omega) (by omega)
    rw [Int.neg_mul_neg] at this; omega
theorem qsq_bd (zs : List Int) (h : ∀ z ∈ zs, -100000 ≤ z ∧ z ≤ 100000) : 0 ≤ qsq zs ∧ qsq zs ≤ 10000000000 * (zs.length : Int) := by
  induction zs with
  | nil => simp [qsq]
  | cons z zs ih =>
    have h1 := sqQ_bd (h z (by simp))
    have h2 := ih fun x hx => h x (by simp [hx])
    have e : qsq (z :: zs) = z * z + qsq zs := by simp [qsq]
    rw [e]
    simp only [List.length_cons]
    omega
theorem sum_snocQ (zs : List Int) (k : Nat) (hk : k < zs.length) : (zs.take (k + 1)).sum = (zs.take k).sum + zs[k] := by rw [take_snoc zs k hk, List.sum_append]; simp
theorem qsq_snocQ (zs : List Int) (k : Nat) (hk : k < zs.length) : qsq (zs.take (k + 1)) = qsq (zs.take k) + zs[k] * zs[k] := by rw [take_snoc zs k hk]; unfold qsq; rw [List.map_append, List.sum_append]; simp
theorem withinQ {zs : List Int} (h : zs.all (within (-100000) 100000) = true) : ∀ z ∈ zs, -100000 ≤ z ∧ z ≤ 100000 := by
  intro z hz
  have := List.all_eq_true.1 h z hz
  simpa [within] using this

set_option maxRecDepth 20000 in
set_option maxHeartbeats 1000000 in
theorem apGood_any (v : Value) (zs : List Int) (w : World) (h : Ints w v zs) :
    Calls Try.prog 52 #[v] w fun e w' => e = .returned (.bool (apB zs)) ∧ w = w' := by
  obtain ⟨p, cap, rfl, hl, hc⟩ := id h
  have H := hid h
  have HC := hid hc
  clear h hc
  by_cases h4 : zs.length = 4
  · have HN := hid h4
    have hn : ((zs.length : Int) != 4) = false := by simp [h4]
    cases hA : zs.all (within (-100000) 100000)
    · have HA := hid hA
      have HR := hid (show apB zs = false by unfold apB; rw [hA]; simp)
      clear hA h4
      go_enter Try.func52, Try.ntmps52
      go_wp2_with fail
      refine (l1All_as _ zs _ _ _ _ HA.out H.out).mono ?_
      rintro e w' ⟨rfl, rfl⟩
      go_wp2_with fail
      go_ret
      exact ⟨ret_bool HR.out.symm, rfl⟩
    · have HA := hid hA
      have HW := hid (withinQ hA)
      have HR := hid (show apB zs = (decide (0 < zs.sum) && decide (2 * qsq zs = zs.sum * zs.sum)) by unfold apB; rw [hA, h4]; simp)
      clear hA h4
      go_enter Try.func52, Try.ntmps52
      go_wp2_with fail
      refine (l1All_as _ zs _ _ _ _ HA.out H.out).mono ?_
      rintro e w' ⟨rfl, rfl⟩
      go_wp2_with fail
      go_loop [3, 4, 17] (fun s q i => ∃ k : Nat, k ≤ zs.length ∧ i = .int .i64 k ∧ s = .int .i64 (zs.take k).sum ∧ q = .int .i64 (qsq (zs.take k))) (fun _ _ i => zs.length - (intOf i).toNat)
      case atStart => exact ⟨0, Nat.zero_le _, rfl, rfl, rfl⟩
      case round =>
        obtain ⟨k, hk, rfl, rfl, rfl⟩ := hrel
        have hk4 : k ≤ 4 := by have := HN.out; omega
        obtain ⟨s1, s2⟩ := sumQ_bd (zs.take k) fun z hz => HW.out z (List.mem_of_mem_take hz)
        obtain ⟨q1, q2⟩ := qsq_bd (zs.take k) fun z hz => HW.out z (List.mem_of_mem_take hz)
        have hlk : (zs.take k).length ≤ 4 := by rw [List.length_take]; omega
        obtain ⟨S, hS⟩ : ∃ S, (zs.take k).sum = S := ⟨_, rfl⟩
        obtain ⟨Q, hQ⟩ : ∃ Q, qsq (zs.take k) = Q := ⟨_, rfl⟩
        rw [hS] at s1 s2
        rw [hQ] at q1 q2
        by_cases hlt : k < zs.length
        · obtain ⟨ad, rfl, hcell⟩ := HC.out k hlt
          simp only [getD_at zs k hlt] at hcell
          have hz := HW.out zs[k] (List.getElem_mem hlt)
          obtain ⟨z1, z2⟩ := hz
          obtain ⟨y1, y2⟩ := sqQ_bd ⟨z1, z2⟩
          have HSS := hid (show (zs.take (k + 1)).sum = S + zs[k] by rw [sum_snocQ zs k hlt, hS])
          have HQQ := hid (show qsq (zs.take (k + 1)) = Q + zs[k] * zs[k] by rw [qsq_snocQ zs k hlt, hQ])
          rw [hS, hQ]
          clear hS hQ
          go_wp2_with fail
          go_round
          case rel => exact ⟨k + 1, hlt, by go_num, by rw [HSS.out], by rw [HQQ.out]⟩
          case measure => simp [intOf]; omega
        · have HS2 := hid (show zs.sum = S by rw [← hS, take_all zs k (by omega)])
          have HQ2 := hid (show qsq zs = Q by rw [← hQ, take_all zs k (by omega)])
          rw [hS, hQ]
          clear hS hQ
          have hSb : -400000 ≤ S ∧ S ≤ 400000 := by omega
          have hQb : 0 ≤ Q ∧ Q ≤ 40000000000 := by omega
          obtain ⟨t1, t2⟩ := hSb
          obtain ⟨t3, t4⟩ := hQb
          have hss : 0 ≤ S * S ∧ S * S ≤ 160000000000 := by
            refine ⟨sq_nn S, ?_⟩
            rcases Int.le_total 0 S with hz | hz
            · have := Int.mul_le_mul t2 t2 hz (by omega); omega
            · have := Int.mul_le_mul (show -S ≤ 400000 by omega) (show -S ≤ 400000 by omega) (by omega) (by omega)
              rw [Int.neg_mul_neg] at this; omega
          obtain ⟨t5, t6⟩ := hss
          clear s1 s2 q1 q2
          by_cases h0 : 0 < S
          · go_wp2_with fail
            go_ret
            exact ⟨ret_bool (by rw [HR.out, HS2.out, HQ2.out, decide_eq_true h0, Bool.true_and, Bool.eq_iff_iff]; simp), rfl⟩
          · go_wp2_with fail
            go_ret
            exact ⟨ret_bool (by rw [HR.out, HS2.out, decide_eq_false (show ¬ 0 < S by omega)]; rfl), rfl⟩
  · have HR := hid (apB_len h4)
    have hn : ((zs.length : Int) != 4) = true := by simp; omega
    clear h4
    go_enter Try.func52, Try.ntmps52
    go_wp2_with fail
    go_ret
    exact ⟨ret_bool HR.out.symm, rfl⟩
theorem apGood_as (v : Value) (zs : List Int) (o : Bool) (w : World) (ho : apB zs = o) (h : Ints w v zs) :
    Calls Try.prog 52 #[v] w fun e w' => e = .returned (.bool o) ∧ w = w' := by
  subst ho; exact apGood_any v zs w h

/-- Four numbers of a size that sums bear. -/
structure Md (a b c d : Int) : Prop where
  a1 : -10000000 ≤ a
  a2 : a ≤ 10000000
  b1 : -10000000 ≤ b
  b2 : b ≤ 10000000
  c1 : -10000000 ≤ c
  c2 : c ≤ 10000000
  d1 : -10000000 ≤ d
  d2 : d ≤ 10000000
set_option maxRecDepth 20000 in
set_option maxHeartbeats 1000000 in
theorem apSum_any (v : Value) (a b c d : Int) (w : World) (hm : Md a b c d) (h : Ints w v [a, b, c, d]) :
    Calls Try.prog 101 #[v] w fun e w' => e = .returned (.int .i64 (a + b + c + d)) ∧ Drew w w' := by
  obtain ⟨ad, cap, rfl, k0, k1, k2, k3⟩ := h.four
  obtain ⟨a1, a2, b1, b2, c1, c2, d1, d2⟩ := hm
  clear h
  go_enter Try.func101, Try.ntmps101
  go_wp2_with fail
  go_quiet (fail)
  go_wp2_with fail
  go_ret
  exact ⟨rfl, ⟨_, rfl⟩⟩
end Go.Proofs.Ytoaopmafokoaoab
