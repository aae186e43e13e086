/- Right triples in the model: the sides of a pair, the pair of a list. -/
import Derived.Test.YtdahhcigphhfdacRiI
import Derived.Test.YtdahhcigphhfdacSqTr
import Derived.Deep.RegionHeld3
namespace Go.Proofs.Ytdahhcigphhfdac
open Go.RowKit

theorem Ints.threeR {w : World} {v : Value} {zs : List Int} (h : Ints w v zs) (h3 : zs.length = 3) :
    ∃ x y z ad cap, zs = [x, y, z] ∧ v = .slice (some ad) 3 cap ∧ w.cell? ad = some (.int .i64 x) ∧ w.cell? ⟨ad.block, ad.off + 1, none⟩ = some (.int .i64 y) ∧ w.cell? ⟨ad.block, ad.off + 2, none⟩ = some (.int .i64 z) := by
  obtain ⟨a, cap, rfl, hl, hc⟩ := h
  match zs, h3 with
  | [x, y, z], _ =>
    obtain ⟨ad, rfl, h0⟩ := hc 0 (by simp)
    obtain ⟨ad', e1, h1⟩ := hc 1 (by simp)
    obtain ⟨ad'', e2, h2⟩ := hc 2 (by simp)
    obtain rfl : ad = ad' := by simpa using e1
    obtain rfl : ad = ad'' := by simpa using e2
    exact ⟨x, y, z, ad, cap, rfl, rfl, by simpa [Addr.add] using h0, by simpa [Addr.add] using h1, by simpa [Addr.add] using h2⟩

/-- A row of three numbers laid at once. -/
theorem ownsThreeR (w : World) (x y z : Int) : OwnInts w.heap.size (w.heap.size + 1) (w.alloc (.cells #[.int .i64 x, .int .i64 y, .int .i64 z] 3)) (.slice (some ⟨w.heap.size, 0, none⟩) 3 3) [x, y, z] := by
  have h := World.ownsRow_lit (e := 3) (size := 1) w #[.int .i64 x, .int .i64 y, .int .i64 z] 3 (Nat.le_refl _) (by unfold maxLen; omega) (by simp)
  refine ⟨by simpa using h, fun b hb => by simp [Value.ownBlock] at hb; omega⟩
theorem OwnInts.threeR {lo hi : Nat} {w : World} {v : Value} {x y z : Int} (h : OwnInts lo hi w v [x, y, z]) :
    ∃ g cap, v = .slice (some ⟨g, 0, none⟩) 3 cap ∧ w.cell? ⟨g, 0, none⟩ = some (.int .i64 x) ∧ w.cell? ⟨g, 1, none⟩ = some (.int .i64 y) ∧ w.cell? ⟨g, 2, none⟩ = some (.int .i64 z) ∧ lo ≤ g ∧ g < hi := by
  obtain ⟨a, cap, rfl, _, hm, _, hc⟩ := ownsRow_shape h.1
  obtain ⟨g, rfl, h0⟩ := hc 0 (by simp)
  obtain ⟨g', e1, h1⟩ := hc 1 (by simp)
  obtain ⟨g'', e2, h2⟩ := hc 2 (by simp)
  obtain rfl : g = g' := by simpa using e1
  obtain rfl : g = g'' := by simpa using e2
  exact ⟨g, cap, rfl, by simpa using h0, by simpa using h1, by simpa using h2, (h.1.lt g rfl).1, h.2 g rfl⟩

theorem right_bounds {x y z m n : Int} (h : rightP [x, y, z] = some (m, n)) : Pair m n ∧ [x, y, z].all (within 1 1000000000) = true ∧ x < z ∧ x = m * m - n * n ∧ y = 2 * m * n ∧ z = m * m + n * n := by
  obtain ⟨hp, he⟩ := right_some h
  unfold sidesL at he
  simp only [List.cons.injEq, and_true] at he
  obtain ⟨rfl, rfl, rfl⟩ := he
  have h1 := hp.h1
  have h2 := hp.h2
  have h6 := hp.h6
  obtain ⟨p1, p2, p3, p4, p5, p6, p7⟩ := hp.prods
  refine ⟨hp, ?_, by omega, rfl, rfl, rfl⟩
  have q : n * n + 2 * (m * n) ≤ m * m + n * n + n * n + 1000000000 := by
    have : (0 : Int) ≤ (m - n) * (m - n) := Int.mul_nonneg (by omega) (by omega)
    have e : (m - n) * (m - n) = m * m + n * n - 2 * (m * n) := by grind
    omega
  have q2 : 2 * (m * n) ≤ m * m + n * n := by
    have : (0 : Int) ≤ (m - n) * (m - n) := Int.mul_nonneg (by omega) (by omega)
    have e : (m - n) * (m - n) = m * m + n * n - 2 * (m * n) := by grind
    omega
  simp only [List.all_cons, List.all_nil, Bool.and_true, within, Bool.and_eq_true, decide_eq_true_eq]
  omega

set_option maxHeartbeats 1000000 in
theorem riOf_any (m n : Int) (hp : Pair m n) (w : World) :
    Calls Try.prog 93 #[.int .i64 m, .int .i64 n] w fun e w' => MadeInts w (sidesL m n) e w' := by
  obtain ⟨p1, p2, p3, p4, p5, p6, p7⟩ := hp.prods
  have h1 := hp.h1
  have h2 := hp.h2
  have h7 := hp.h7
  have p8 : 0 ≤ 2 * m * n := by omega
  have p9 : 2 * m * n ≤ 2000000000 := by omega
  have HO := hid (ownsThreeR w (m * m - n * n) (2 * m * n) (m * m + n * n))
  have HL := hid (Later.alloc w (.cells #[.int .i64 (m * m - n * n), .int .i64 (2 * m * n), .int .i64 (m * m + n * n)] 3))
  clear p6 p7 hp
  go_enter Try.func93, Try.ntmps93
  go_wp2_with fail
  go_ret
  exact ⟨_, rfl, HO.out.wide (Nat.le_refl _) (by simp), HL.out⟩

set_option maxHeartbeats 1000000 in
theorem riIf_any (m n : Int) (w : World) :
    Calls Try.prog 64 #[.int .i64 m, .int .i64 n] w fun e w' => IntsAns w (tripAns m n) e w' := by
  have HP := hid (fun w0 => riPair_any m n w0)
  cases hp : pairB m n
  · rw [hp] at HP
    have HA := hid (tripAns_no hp)
    clear hp
    go_enter Try.func64, Try.ntmps64
    go_wp2_with (go_at_call 101; refine (HP.out _).mono ?_; rintro e w1 ⟨rfl, rfl⟩)
    go_ret2
    rw [HA.out]
    exact ⟨_, rfl, ⟨World.ownsRow_nil _ _ _ _, fun b hb => by simp [Value.ownBlock] at hb⟩, Later.refl _⟩
  · rw [hp] at HP
    have HA := hid (tripAns_yes (pairB_iff.1 hp))
    have HO := hid (fun w0 => riOf_any m n (pairB_iff.1 hp) w0)
    clear hp
    go_enter Try.func64, Try.ntmps64
    go_wp2_with (first | (go_at_call 101; refine (HP.out _).mono ?_; rintro e w1 ⟨rfl, rfl⟩) | (go_at_call 93; refine (HO.out _).mono ?_; rintro e w2 ⟨v2, rfl, ho, hL⟩; have HO2 := hid ho; have HL2 := hid hL; clear ho hL))
    go_ret2
    rw [HA.out]
    exact ⟨_, rfl, HO2.out, HL2.out⟩

set_option maxHeartbeats 2000000 in
theorem riBack_any (x y z : Int) (ad : Addr) (cap : Nat) (w : World) (hx : 1 ≤ x ∧ x ≤ 1000000000) (hz : z ≤ 1000000000) (hxz : x < z) (h : Ints w (.slice (some ad) 3 cap) [x, y, z]) :
    Calls Try.prog 68 #[.slice (some ad) 3 cap] w fun e w' => e = .returned (.tuple #[.int .i64 (backM [x, y, z]), .int .i64 (backN [x, y, z])]) ∧ Drew w w' := by
  obtain ⟨x', y', z', ad', cap', e1, e2, c0, _, c2⟩ := h.threeR rfl
  simp only [List.cons.injEq, and_true] at e1
  obtain ⟨rfl, rfl, rfl⟩ := e1
  simp only [Value.slice.injEq, Option.some.injEq, true_and] at e2
  obtain ⟨rfl, rfl⟩ := e2
  obtain ⟨p, hp⟩ : ∃ p : Nat, (z + x) / 2 = (p : Int) := ⟨((z + x) / 2).toNat, by omega⟩
  obtain ⟨q, hq⟩ : ∃ q : Nat, (z - x) / 2 = (q : Int) := ⟨((z - x) / 2).toNat, by omega⟩
  have hM : backM [x, y, z] = (rootN p : Int) := by unfold backM; simp only [List.getD_cons_zero, List.getD_cons_succ]; rw [hp, Int.toNat_natCast]
  have hN : backN [x, y, z] = (rootN q : Int) := by unfold backN; simp only [List.getD_cons_zero, List.getD_cons_succ]; rw [hq, Int.toNat_natCast]
  have e1 : (z + x).tdiv 2 = (p : Int) := by rw [Int.tdiv_eq_ediv_of_nonneg (by omega)]; exact hp
  have e2 : (z - x).tdiv 2 = (q : Int) := by rw [Int.tdiv_eq_ediv_of_nonneg (by omega)]; exact hq
  have w1 : IntKind.i64.wrap (z + x) = z + x := by rw [IntWalk.i64_left]; exact IntWalk.wrap64_in _ (by omega)
  have w2 : IntKind.i64.wrap (z - x) = z - x := by rw [IntWalk.i64_left]; exact IntWalk.wrap64_in _ (by omega)
  have w3 : IntKind.i64.wrap (p : Int) = (p : Int) := by rw [IntWalk.i64_left]; exact IntWalk.wrap64_in _ (by omega)
  have w4 : IntKind.i64.wrap (q : Int) = (q : Int) := by rw [IntWalk.i64_left]; exact IntWalk.wrap64_in _ (by omega)
  have HF := hid (fun (r : Nat) (w0 : World) (hr : r = p ∨ r = q) => foRoot_any r w0 (show r ≤ 1000000000000000000 by omega))
  have HM := hid hM
  have HN := hid hN
  clear hp hq hM hN h
  go_enter Try.func68, Try.ntmps68
  go_wp2_with fail
  go_quiet (first | (go_at_call 112; exact Calls.quiet_of_same ((HF.out _ _ (by first | exact .inl rfl | exact .inr rfl)).mono fun _ _ ⟨a, b⟩ => ⟨a, b.symm⟩)))
  go_wp2_with fail
  go_ret2
  exact ⟨by rw [HM.out, HN.out]; rfl, ⟨_, rfl⟩⟩

set_option maxHeartbeats 4000000 in
theorem riGood_any (v : Value) (zs : List Int) (w : World) (h : Ints w v zs) :
    Calls Try.prog 67 #[v] w fun e w' => e = .returned (.bool (rightP zs).isSome) ∧ Later w w' := by
  by_cases h3 : zs.length = 3
  · obtain ⟨x, y, z, ad, cap, rfl, rfl, c0, c1, c2⟩ := h.threeR h3
    have H := hid h
    clear h h3
    cases hc : [x, y, z].all (within 1 1000000000)
    · have HA := hid (show (rightP [x, y, z]).isSome = false by
        cases hr : rightP [x, y, z] with
        | none => rfl
        | some p => have := (right_bounds hr).2.1; rw [hc] at this; cases this)
      have HC := hid hc
      clear hc
      go_enter Try.func67, Try.ntmps67
      go_wp2_with fail
      go_quiet (first | (go_at_call 103; exact Calls.quiet_of_same ((l1All_as (.slice (some ad) 3 cap) [x, y, z] 1 1000000000 false _ HC.out (H.out.later (Later.drewN _ _))).mono fun _ _ ⟨a, b⟩ => ⟨a, b.symm⟩)))
      go_wp2_with fail
      go_ret
      exact ⟨ret_bool HA.out.symm, Later.drewN _ _⟩
    · have HC := hid hc
      by_cases hxz : z ≤ x
      · have HA := hid (show (rightP [x, y, z]).isSome = false by
          cases hr : rightP [x, y, z] with
          | none => rfl
          | some p => have := (right_bounds hr).2.2.1; omega)
        have hd : decide (z ≤ x) = true := decide_eq_true hxz
        clear hc
        go_enter Try.func67, Try.ntmps67
        go_wp2_with fail
        go_quiet (first | (go_at_call 103; exact Calls.quiet_of_same ((l1All_as (.slice (some ad) 3 cap) [x, y, z] 1 1000000000 true _ HC.out (H.out.later (Later.drewN _ _))).mono fun _ _ ⟨a, b⟩ => ⟨a, b.symm⟩)))
        go_wp2_with fail
        go_ret
        exact ⟨ret_bool HA.out.symm, Later.drewN _ _⟩
      · have hd : decide (z ≤ x) = false := decide_eq_false hxz
        have hb : 1 ≤ x ∧ x ≤ 1000000000 ∧ z ≤ 1000000000 := by
          simp only [List.all_cons, List.all_nil, Bool.and_true, within, Bool.and_eq_true, decide_eq_true_eq] at hc
          omega
        have HBK := hid (fun w0 hI => riBack_any x y z ad cap w0 ⟨hb.1, hb.2.1⟩ hb.2.2 (by omega) hI)
        clear hc
        have HR := hid (show rightP [x, y, z] = if pairB (backM [x, y, z]) (backN [x, y, z]) = true ∧ sidesL (backM [x, y, z]) (backN [x, y, z]) = [x, y, z] then some (backM [x, y, z], backN [x, y, z]) else none by unfold rightP; simp)
        obtain ⟨m, hm⟩ : ∃ m, backM [x, y, z] = m := ⟨_, rfl⟩
        obtain ⟨n, hn⟩ : ∃ n, backN [x, y, z] = n := ⟨_, rfl⟩
        rw [hm, hn] at HBK HR
        have HP := hid (fun w0 => riPair_any m n w0)
        clear hm hn hb
        cases hp : pairB m n
        · have HA := hid (show (rightP [x, y, z]).isSome = false by rw [HR.out, hp]; simp)
          rw [hp] at HP
          clear hp
          go_enter Try.func67, Try.ntmps67
          go_wp2_with fail
          go_quiet (first | (go_at_call 103; exact Calls.quiet_of_same ((l1All_as (.slice (some ad) 3 cap) [x, y, z] 1 1000000000 true _ HC.out (H.out.later (Later.drewN _ _))).mono fun _ _ ⟨a, b⟩ => ⟨a, b.symm⟩)))
          have HL1 := hid (Later.drewN w nq)
          generalize w.drewN nq = w1 at HL1 ⊢
          clear c0 c1 c2
          go_wp2_with (first | (go_at_call 68; refine (HBK.out _ (H.out.later HL1.out)).mono ?_; rintro e w2 ⟨rfl, hD⟩; have HL2 := hid (HL1.out.trans hD.later); clear hD) | (go_at_call 101; refine (HP.out _).mono ?_; rintro e w3 ⟨rfl, rfl⟩))
          go_ret
          exact ⟨ret_bool HA.out.symm, HL2.out⟩
        · have HA := hid (show (rightP [x, y, z]).isSome = eqL (sidesL m n) [x, y, z] by
            rw [HR.out, hp]
            unfold eqL
            by_cases he : sidesL m n = [x, y, z]
            · rw [if_pos ⟨rfl, he⟩, decide_eq_true he]; rfl
            · rw [if_neg fun hh => he hh.2, decide_eq_false he]; rfl)
          have HO := hid (fun w0 => riOf_any m n (pairB_iff.1 hp) w0)
          rw [hp] at HP
          clear hp
          go_enter Try.func67, Try.ntmps67
          go_wp2_with fail
          go_quiet (first | (go_at_call 103; exact Calls.quiet_of_same ((l1All_as (.slice (some ad) 3 cap) [x, y, z] 1 1000000000 true _ HC.out (H.out.later (Later.drewN _ _))).mono fun _ _ ⟨a, b⟩ => ⟨a, b.symm⟩)))
          have HL1 := hid (Later.drewN w nq)
          generalize w.drewN nq = w1 at HL1 ⊢
          clear c0 c1 c2
          go_wp2_with (first | (go_at_call 68; refine (HBK.out _ (H.out.later HL1.out)).mono ?_; rintro e w2 ⟨rfl, hD⟩; have HL2 := hid (HL1.out.trans hD.later); clear hD) | (go_at_call 101; refine (HP.out _).mono ?_; rintro e w3 ⟨rfl, rfl⟩) | (go_at_call 93; refine (HO.out _).mono ?_; rintro e w4 ⟨v4, rfl, ho, hL4⟩; have HO4 := hid ho; have HL4 := hid (HL2.out.trans hL4); clear ho hL4) | (go_at_call 111; refine (l1Same_any _ _ _ _ _ HO4.out.ints (H.out.later HL4.out)).mono ?_; rintro e w5 ⟨rfl, hD⟩; have HL5 := hid (HL4.out.trans hD.later); clear hD))
          go_ret
          exact ⟨ret_bool HA.out.symm, HL5.out⟩
  · have HA := hid (show (rightP zs).isSome = false by unfold rightP; rw [if_neg fun hh => h3 hh.1]; rfl)
    obtain ⟨p, cap, rfl, hl, _⟩ := id h
    have hne : ((zs.length : Int) != 3) = true := by simp; omega
    go_enter Try.func67, Try.ntmps67
    go_wp2_with fail
    go_quiet (fail)
    go_wp2_with fail
    go_ret
    exact ⟨ret_bool HA.out.symm, Later.drewN _ _⟩
end Go.Proofs.Ytdahhcigphhfdac
