/- Right triples in the program: the pair of a list. -/
import Derived.Test.YtdahhcigphhfdacRiR
namespace Go.Proofs.Ytdahhcigphhfdac
open Go.RowKit

def rtR : Option (Int × Int) → Value
  | some p => .tuple #[.agg (rtV p.1 p.2).toArray, .bool true]
  | none => .tuple #[.agg zero5.toArray, .bool false]
theorem root_half {q m : Int} (hm : 0 ≤ m) (hb : m * m ≤ 1000000000) (h : q = 2 * (m * m)) : (rootAns (wrap64 ((wrap64 q).tdiv 2))).getD 0 = m := by
  have h0 : 0 ≤ m * m := Int.mul_nonneg hm hm
  have e1 : wrap64 q = q := IntWalk.wrap64_in _ (by omega)
  have e2 : q.tdiv 2 = m * m := by rw [Int.tdiv_eq_ediv_of_nonneg (by omega)]; omega
  have e3 : wrap64 (m * m) = m * m := IntWalk.wrap64_in _ (by omega)
  rw [e1, e2, e3]
  unfold rootAns
  rw [if_pos (by omega)]
  exact root_sq hm _ rfl
theorem right_by {x y z m n : Int} (hm : (rootAns (wrap64 ((wrap64 (z + x)).tdiv 2))).getD 0 = m) (hn : (rootAns (wrap64 ((wrap64 (z - x)).tdiv 2))).getD 0 = n) :
    rightP [x, y, z] = if pairB m n = true ∧ sidesL m n = [x, y, z] then some (m, n) else none := by
  split
  · rename_i h
    exact right_only (pairB_iff.1 h.1) h.2
  · rename_i h
    cases hr : rightP [x, y, z] with
    | none => rfl
    | some p =>
      obtain ⟨m', n'⟩ := p
      obtain ⟨hp, he⟩ := right_some hr
      exfalso
      apply h
      have hx : x = m' * m' - n' * n' := by unfold sidesL at he; simp only [List.cons.injEq] at he; exact he.1
      have hz : z = m' * m' + n' * n' := by unfold sidesL at he; simp only [List.cons.injEq] at he; exact he.2.2.1
      have := hp.h1
      have := hp.h2
      have := hp.prods
      rw [root_half (show 0 ≤ m' by omega) (by omega) (by omega)] at hm
      rw [root_half (show 0 ≤ n' by omega) (by omega) (by omega)] at hn
      subst hm
      subst hn
      exact ⟨hp.yes, he.symm⟩

set_option maxRecDepth 20000 in
set_option maxHeartbeats 4000000 in
theorem rightTripleOf_any (v : Value) (zs : List Int) (w : World) (h : Ints w v zs) :
    Calls Try.prog 65 #[v] w fun e w' => e = .returned (rtR (rightP zs)) ∧ Later w w' := by
  have hA := Later.alloc w (.cells #[.int .i64 0, .int .i64 0, .int .i64 0, .int .i64 0, .int .i64 0] 69)
  have H := hid (h.later hA)
  have HL := hid hA
  have HZ := hid (Box5.new w (.int .i64 0) (.int .i64 0) (.int .i64 0) (.int .i64 0) (.int .i64 0) 69)
  clear hA
  obtain ⟨p, cap, rfl, hl, _⟩ := id h
  clear h
  by_cases h3 : zs.length = 3
  · obtain ⟨x, y, z, rfl⟩ : ∃ x y z, zs = [x, y, z] := by
      match zs, h3 with
      | [x, y, z], _ => exact ⟨x, y, z, rfl⟩
    obtain ⟨_, _, e1, _, hc⟩ := H.out
    simp only [Value.slice.injEq] at e1
    obtain ⟨rfl, _, rfl⟩ := e1
    obtain ⟨ad, rfl, k0⟩ := hc 0 (by simp)
    obtain ⟨ad', e2, k2⟩ := hc 2 (by simp)
    simp only [Option.some.injEq] at e2
    subst e2
    replace k0 : (w.alloc (.cells #[.int .i64 0, .int .i64 0, .int .i64 0, .int .i64 0, .int .i64 0] 69)).cell? ad = some (.int .i64 x) := by
      have : ad.add 0 = ad := by unfold Addr.add; simp
      rwa [this] at k0
    replace k2 : (w.alloc (.cells #[.int .i64 0, .int .i64 0, .int .i64 0, .int .i64 0, .int .i64 0] 69)).cell? ⟨ad.block, ad.off + 2, none⟩ = some (.int .i64 z) := by
      have : ad.add 2 = ⟨ad.block, ad.off + 2, none⟩ := by simp [Addr.add]
      rwa [this] at k2
    obtain ⟨m, hm⟩ : ∃ m, (rootAns (wrap64 ((wrap64 (z + x)).tdiv 2))).getD 0 = m := ⟨_, rfl⟩
    obtain ⟨n, hn⟩ : ∃ n, (rootAns (wrap64 ((wrap64 (z - x)).tdiv 2))).getD 0 = n := ⟨_, rfl⟩
    have HR := hid (right_by (y := y) hm hn)
    have HM := hid hm
    have HN := hid hn
    have HT := hid (fun w0 => triple_any m n w0)
    clear hm hn hc h3 hl
    show Calls Try.prog 65 #[.slice (some ad) 3 cap] _ _
    replace H : Hid (Ints (w.alloc (.cells #[.int .i64 0, .int .i64 0, .int .i64 0, .int .i64 0, .int .i64 0] 69)) (.slice (some ad) 3 cap) [x, y, z]) := H
    go_enter Try.func65, Try.ntmps65
    go_wp2_with fail
    generalize w.alloc (.cells #[.int .i64 0, .int .i64 0, .int .i64 0, .int .i64 0, .int .i64 0] 69) = w1 at H HL HZ k0 k2 ⊢
    go_quiet (first | (go_at_call 109; exact Calls.quiet_of_same ((implRootOfQ_any _ _).mono fun _ _ ⟨a, b⟩ => ⟨a, b.symm⟩)))
    have hLW := Later.drewN w1 nq
    replace k0 := hLW.cell k0
    replace k2 := hLW.cell k2
    replace H := hid (H.out.later hLW)
    have HL := hid (HL.out.trans hLW)
    have HZ := hid (HZ.out.later hLW)
    clear hLW
    generalize w1.drewN nq = w1 at H HL HZ k0 k2 ⊢
    go_wp2_with fail
    go_quiet (first | (go_at_call 109; exact Calls.quiet_of_same ((implRootOfQ_any _ _).mono fun _ _ ⟨a, b⟩ => ⟨a, b.symm⟩)))
    have hLW := Later.drewN w1 nq
    replace k0 := hLW.cell k0
    replace k2 := hLW.cell k2
    replace H := hid (H.out.later hLW)
    have HL := hid (HL.out.trans hLW)
    have HZ := hid (HZ.out.later hLW)
    clear hLW
    generalize w1.drewN nq = w1 at H HL HZ k0 k2 ⊢
    go_wp2_with fail
    rw [HM.out, HN.out]
    cases hp : pairB m n
    · have HV := hid (show tripV m n = .tuple #[.agg zero5.toArray, .bool false] by unfold tripV; rw [hp]; simp)
      have HO := hid (show rightP [x, y, z] = none by rw [HR.out, hp]; simp)
      clear hp
      refine (HT.out _).mono ?_
      rintro e w3 ⟨rfl, hL3⟩
      rw [HV.out]
      have hA3 := Later.alloc w3 (.cells zero5.toArray 69)
      unfold zero5 at hA3 ⊢
      have HZ3 := hid (HZ.out.later (hL3.trans hA3))
      have HL3 := hid ((HL.out.trans hL3).trans hA3)
      obtain ⟨⟨r0, r1, r2, r3, r4⟩, f0, f1, f2, f3, f4⟩ := HZ3.out
      clear hL3 hA3 k0 k2
      go_wp2_with fail
      generalize w3.alloc (.cells #[.int .i64 0, .int .i64 0, .int .i64 0, .int .i64 0, .int .i64 0] 69) = w4 at HZ3 HL3 r0 r1 r2 r3 r4 f0 f1 f2 f3 f4 ⊢
      have HL6 := hid (later_set5 HL3.out (Nat.le_refl _) (.int .i64 0) (.int .i64 0) (.int .i64 0) (.int .i64 0) (.int .i64 0))
      obtain ⟨e0, e1, e2, e3, e4⟩ := HZ3.out.arr.set (.int .i64 0) (.int .i64 0) (.int .i64 0) (.int .i64 0) (.int .i64 0)
      generalize (((((w4.setCell ⟨w.heap.size, 0, none⟩ (.int .i64 0)).setCell ⟨w.heap.size, 1, none⟩ (.int .i64 0)).setCell ⟨w.heap.size, 2, none⟩ (.int .i64 0)).setCell ⟨w.heap.size, 3, none⟩ (.int .i64 0)).setCell ⟨w.heap.size, 4, none⟩ (.int .i64 0)) = w6 at HL6 e0 e1 e2 e3 e4 ⊢
      clear r0 r1 r2 r3 r4 f0 f1 f2 f3 f4
      refine bodyPost_ret (v := .tuple #[.agg #[.int .i64 0, .int .i64 0, .int .i64 0, .int .i64 0, .int .i64 0], .bool false]) ?_ rfl ⟨by rw [HO.out]; rfl, HL6.out⟩
      rw [results_cell_tmp rfl]
      go_simp
    · have HV := hid (show tripV m n = .tuple #[.agg (rtV m n).toArray, .bool true] by unfold tripV; rw [if_pos hp])
      refine (HT.out _).mono ?_
      rintro e w3 ⟨rfl, hL3⟩
      rw [HV.out]
      have hA3 := Later.alloc w3 (.cells (rtV m n).toArray 69)
      have hB3 := arr5_alloc w3 (.int .i64 m) (.int .i64 n) (.int .i64 (m * m - n * n)) (.int .i64 (2 * m * n)) (.int .i64 (m * m + n * n)) 69
      unfold rtV at hA3 ⊢
      have HZ3 := hid (HZ.out.later (hL3.trans hA3))
      have HL3 := hid ((HL.out.trans hL3).trans hA3)
      have H3 := hid (H.out.later (hL3.trans hA3))
      have HB3 := hid hB3
      obtain ⟨c0, c1, c2, c3, c4⟩ := HB3.out
      clear hL3 hA3 hB3 k0 k2
      go_wp2_with fail
      generalize w3.alloc (.cells #[.int .i64 m, .int .i64 n, .int .i64 (m * m - n * n), .int .i64 (2 * m * n), .int .i64 (m * m + n * n)] 69) = w4 at HZ3 HL3 H3 HB3 c0 c1 c2 c3 c4 ⊢
      cases he : eqL (sidesL m n) [x, y, z]
      · have HO := hid (show rightP [x, y, z] = none by rw [HR.out, if_neg]; intro hh; unfold eqL at he; exact of_decide_eq_false he hh.2)
        have HE := hid he
        clear hp he
        refine (slEqual_any _ _ _ _ w4 HB3.out.sides H3.out).mono ?_
        rintro e w5 ⟨rfl, hD⟩
        rw [HE.out]
        have HZ5 := hid (HZ3.out.later hD.later)
        have HL5 := hid (HL3.out.trans hD.later)
        obtain ⟨⟨r0, r1, r2, r3, r4⟩, f0, f1, f2, f3, f4⟩ := HZ5.out
        clear hD c0 c1 c2 c3 c4
        go_wp2_with fail
        have HL6 := hid (later_set5 HL5.out (Nat.le_refl _) (.int .i64 0) (.int .i64 0) (.int .i64 0) (.int .i64 0) (.int .i64 0))
        obtain ⟨e0, e1, e2, e3, e4⟩ := HZ5.out.arr.set (.int .i64 0) (.int .i64 0) (.int .i64 0) (.int .i64 0) (.int .i64 0)
        generalize (((((w5.setCell ⟨w.heap.size, 0, none⟩ (.int .i64 0)).setCell ⟨w.heap.size, 1, none⟩ (.int .i64 0)).setCell ⟨w.heap.size, 2, none⟩ (.int .i64 0)).setCell ⟨w.heap.size, 3, none⟩ (.int .i64 0)).setCell ⟨w.heap.size, 4, none⟩ (.int .i64 0)) = w6 at HL6 e0 e1 e2 e3 e4 ⊢
        clear r0 r1 r2 r3 r4 f0 f1 f2 f3 f4
        refine bodyPost_ret (v := .tuple #[.agg #[.int .i64 0, .int .i64 0, .int .i64 0, .int .i64 0, .int .i64 0], .bool false]) ?_ rfl ⟨by rw [HO.out]; rfl, HL6.out⟩
        rw [results_cell_tmp rfl]
        go_simp
      · have HO := hid (show rightP [x, y, z] = some (m, n) by rw [HR.out, if_pos]; exact ⟨hp, by unfold eqL at he; exact of_decide_eq_true he⟩)
        have HE := hid he
        clear hp he
        refine (slEqual_any _ _ _ _ w4 HB3.out.sides H3.out).mono ?_
        rintro e w5 ⟨rfl, hD⟩
        rw [HE.out]
        have HZ5 := hid (HZ3.out.later hD.later)
        have HL5 := hid (HL3.out.trans hD.later)
        replace c0 := hD.later.cell c0
        replace c1 := hD.later.cell c1
        replace c2 := hD.later.cell c2
        replace c3 := hD.later.cell c3
        replace c4 := hD.later.cell c4
        obtain ⟨⟨r0, r1, r2, r3, r4⟩, f0, f1, f2, f3, f4⟩ := HZ5.out
        clear hD
        go_wp2_with fail
        have HL6 := hid (later_set5 HL5.out (Nat.le_refl _) (.int .i64 m) (.int .i64 n) (.int .i64 (m * m - n * n)) (.int .i64 (2 * m * n)) (.int .i64 (m * m + n * n)))
        obtain ⟨e0, e1, e2, e3, e4⟩ := HZ5.out.arr.set (.int .i64 m) (.int .i64 n) (.int .i64 (m * m - n * n)) (.int .i64 (2 * m * n)) (.int .i64 (m * m + n * n))
        generalize (((((w5.setCell ⟨w.heap.size, 0, none⟩ (.int .i64 m)).setCell ⟨w.heap.size, 1, none⟩ (.int .i64 n)).setCell ⟨w.heap.size, 2, none⟩ (.int .i64 (m * m - n * n))).setCell ⟨w.heap.size, 3, none⟩ (.int .i64 (2 * m * n))).setCell ⟨w.heap.size, 4, none⟩ (.int .i64 (m * m + n * n))) = w6 at HL6 e0 e1 e2 e3 e4 ⊢
        clear r0 r1 r2 r3 r4 f0 f1 f2 f3 f4 c0 c1 c2 c3 c4
        refine bodyPost_ret (v := .tuple #[.agg #[.int .i64 m, .int .i64 n, .int .i64 (m * m - n * n), .int .i64 (2 * m * n), .int .i64 (m * m + n * n)], .bool true]) ?_ rfl ⟨by rw [HO.out]; rfl, HL6.out⟩
        rw [results_cell_tmp rfl]
        go_simp
  · have HR := hid (show rightP zs = none by unfold rightP; rw [if_neg fun hh => h3 hh.1])
    have hne : ((zs.length : Int) != 3) = true := by simp; omega
    obtain ⟨⟨r0, r1, r2, r3, r4⟩, f0, f1, f2, f3, f4⟩ := HZ.out
    go_enter Try.func65, Try.ntmps65
    go_wp2_with fail
    generalize w.alloc (.cells #[.int .i64 0, .int .i64 0, .int .i64 0, .int .i64 0, .int .i64 0] 69) = w1 at H HL HZ r0 r1 r2 r3 r4 f0 f1 f2 f3 f4 ⊢
    refine bodyPost_ret (v := .tuple #[.agg #[.int .i64 0, .int .i64 0, .int .i64 0, .int .i64 0, .int .i64 0], .bool false]) ?_ rfl ⟨by rw [HR.out]; rfl, ?_⟩
    · rw [results_cell_tmp rfl]
      go_simp
    · exact HL.out
end Go.Proofs.Ytdahhcigphhfdac
