/- The move modulo a prime number, in the model. -/
import Derived.Test.YtjnhhjnfdaaaeabMkI
import Derived.Deep.AppendLies
import Derived.StillTailTactics
import Derived.Deep.RegionHeld3
namespace Go.Proofs.Ytjnhhjnfdaaaeab
open Go.RowKit

theorem Ints.news2 {w : World} {ad : Addr} {n c : Nat} {zs : List Int} (h : Ints w (.slice (some ad) n c) zs) : ∀ j u, (zs.map (Value.int .i64))[j]? = some u → w.cell? (ad.add j) = some u := by
  intro j u hj
  obtain ⟨a, cap, hv, _, hc⟩ := h
  simp only [Value.slice.injEq] at hv
  obtain ⟨rfl, _, rfl⟩ := hv
  have hlt : j < zs.length := by
    rcases Nat.lt_or_ge j zs.length with h | h
    · exact h
    · rw [List.getElem?_eq_none (by simpa using h)] at hj; cases hj
  obtain ⟨ad', e, hx⟩ := hc j hlt
  simp only [Option.some.injEq] at e
  subst e
  rw [hx]
  simp [hlt] at hj ⊢
  exact hj


set_option maxHeartbeats 400000 in
theorem l1Own2_any (ad : Addr) (n c : Nat) (zs : List Int) (w : World) (hz : zs.length = n) (hb : n ≤ 1048576) (h : Ints w (.slice (some ad) n c) zs) :
    Calls Try.prog 37 #[.slice (some ad) n c] w fun e w' => MadeInts w zs e w' := by
  obtain ⟨i0, hi, hz0, hz1, hz2⟩ := info_parts Try.infoInt
  have HN := hid (h.later (Later.alloc w (.cells #[] 3))).news2
  have hown : (w.alloc (.cells #[] 3)).ownsRow w.heap.size 3 1 (.slice (some ⟨w.heap.size, 0, none⟩) 0 0) 0 [] := by
    refine ⟨rfl, .inr ⟨w.heap.size, 0, #[], rfl, Nat.le_refl _, heap_alloc_new w _, Nat.le_refl _, by omega, by simp, by simp⟩⟩
  have HOW := hid hown
  clear hown h
  go_enter Try.func37, Try.ntmps37
  go_wp2_with (at_builtin; refine wpList_append_own_at _ (by rfl) _ _ _ (by rfl) w.heap.size 3 i0 (.int .i64 0) 1 8 Try.underlying22 hi hz0 hz1 hz2 rfl (by omega) (.slice (some ⟨w.heap.size, 0, none⟩) 0 0) 0 [] (by rfl) (by exact HOW.out) ad n c (zs.map (.int .i64)) (by rfl) (by simp [hz]) HN.out (by simp [Value.oneCell']) (by unfold maxLen; omega) (by omega) (by simp) ?_)
  intro v1 w1 hown1 hgrow _ _
  have hL : Later w w1 := (Later.alloc w (.cells #[] 3)).grown hgrow (by simp) (fun b hb => by simp [Value.ownBlock] at hb; omega)
  have HO : Hid (OwnInts w.heap.size w1.heap.size w1 v1 zs) := hid ⟨by rw [hz]; simpa using hown1, fun b hb => (hown1.lt b hb).2⟩
  clear hown1 hgrow
  go_wp2_with fail
  go_ret
  exact ⟨_, rfl, HO.out, hL⟩

theorem remT_def (u m : Int) : remT u m = (u.tmod m + m).tmod m := rfl

set_option maxRecDepth 20000 in
set_option maxHeartbeats 4000000 in
theorem mkModMove_any (x y z p : Int) (i : Nat) (hi : i = 0 ∨ i = 1 ∨ i = 2) (ad : Addr) (cap : Nat) (w : World) (hx : Cnt0 x) (hy : Cnt0 y) (hz : Cnt0 z) (hp : 1 ≤ p ∧ p ≤ 1000000000)
    (h : Ints w (.slice (some ad) 3 cap) [x, y, z]) :
    Calls Try.prog 69 #[.int .i64 p, .slice (some ad) 3 cap, .int .i64 i] w fun e w' => MadeInts w (modL p x y z i) e w' := by
  obtain ⟨x', y', z', ad', cap', e1, e2, c0, c1, c2⟩ := h.three rfl
  simp only [Value.slice.injEq, Option.some.injEq, true_and, List.cons.injEq, and_true] at e1 e2
  obtain ⟨rfl, rfl, rfl⟩ := e1
  obtain ⟨rfl, rfl⟩ := e2
  have H := hid h
  clear h
  have z0 : ¬ p = 0 := by omega
  rcases hi with rfl | rfl | rfl
  · obtain ⟨p1, p2⟩ := mul_le18' hy hz
    have hT := hx.2
    have hT0 := hx.1
    have hA := hy.2
    have hA0 := hy.1
    obtain ⟨n, hn⟩ : ∃ n, 3 * y * z - x = n := ⟨_, rfl⟩
    have hr := tmod_in n p hp.1
    have hrem := remT_def n p
    obtain ⟨r, hr0⟩ : ∃ r, n.tmod p = r := ⟨_, rfl⟩
    rw [hr0] at hr hrem
    obtain ⟨q, hq⟩ : ∃ q, (r + p).tmod p = q := ⟨_, rfl⟩
    have HQ := hid (show modL p x y z 0 = [q, y, z] by show [remT (3 * y * z - x) p, y, z] = _; rw [hn, hrem, hq])
    have w1 : IntKind.i64.wrap (3 * y) = 3 * y := by rw [IntWalk.i64_left]; exact IntWalk.wrap64_in _ (by omega)
    have w2 : IntKind.i64.wrap (3 * y * z) = 3 * y * z := by rw [IntWalk.i64_left]; exact IntWalk.wrap64_in _ (by omega)
    have w3 : IntKind.i64.wrap (3 * y * z - x) = n := by rw [← hn, IntWalk.i64_left]; exact IntWalk.wrap64_in _ (by omega)
    have w4 : IntKind.i64.wrap (r + p) = r + p := by rw [IntWalk.i64_left]; exact IntWalk.wrap64_in _ (by omega)
    clear hn hrem p1 p2 hr
    have l1 : IntKind.i64.wrap 1 = 1 := by decide
    have l2 : IntKind.i64.wrap 2 = 2 := by decide
    have l3 : IntKind.i64.wrap 3 = 3 := by decide
    have l4 : IntKind.i64.wrap 4 = 4 := by decide
    have m1 : (1 : Int).tmod 3 = 1 := by decide
    have m2 : (2 : Int).tmod 3 = 2 := by decide
    have m3 : (3 : Int).tmod 3 = 0 := by decide
    have m4 : (4 : Int).tmod 3 = 1 := by decide
    go_enter Try.func69, Try.ntmps69
    go_wp2_with fail
    refine (l1Own2_any ad 3 cap [x, y, z] _ rfl (by omega) H.out).mono ?_
    rintro e wa ⟨va, rfl, ho, hL⟩
    have hd := Later.drew wa
    replace hL := hL.trans hd
    replace ho := ho.later hd
    obtain ⟨g, cg, rfl, d0, d1, d2, hlo, hhi⟩ := ho.three
    have d3 : wa.drew.frozen? ⟨g, 0, none⟩ = false := ho.1.frozenAt 0
    replace c0 := hL.cell c0
    replace c1 := hL.cell c1
    replace c2 := hL.cell c2
    have HW : Hid (OwnInts w.heap.size wa.heap.size (wa.drew.setCell ⟨g, 0, none⟩ (.int .i64 q)) (.slice (some ⟨g, 0, none⟩) 3 cg) [q, y, z]) := hid ⟨by simpa using (ho.1.stored 0 (.int .i64 q)).1, ho.2⟩
    have HW2 := hid (show Later w (wa.drew.setCell ⟨g, 0, none⟩ (.int .i64 q)) from Below.setCell hL hlo _)
    have hsz : wa.drew.heap.size = wa.heap.size := rfl
    clear hL ho hd
    go_wp2_with fail
    go_still_tail 28, (by kernel_rfl)
    change wpList _ _ _ _ _ wa.drew
    generalize wa.drew = wd at *
    go_wp2_with fail
    go_ret
    rw [HQ.out]
    exact ⟨_, rfl, HW.out.wide (Nat.le_refl _) (by simp [World.setCell]; omega), HW2.out⟩
  · obtain ⟨p1, p2⟩ := mul_le18' hz hx
    have hT := hy.2
    have hT0 := hy.1
    have hA := hz.2
    have hA0 := hz.1
    obtain ⟨n, hn⟩ : ∃ n, 3 * z * x - y = n := ⟨_, rfl⟩
    have hr := tmod_in n p hp.1
    have hrem := remT_def n p
    obtain ⟨r, hr0⟩ : ∃ r, n.tmod p = r := ⟨_, rfl⟩
    rw [hr0] at hr hrem
    obtain ⟨q, hq⟩ : ∃ q, (r + p).tmod p = q := ⟨_, rfl⟩
    have HQ := hid (show modL p x y z 1 = [x, q, z] by show [x, remT (3 * z * x - y) p, z] = _; rw [hn, hrem, hq])
    have w1 : IntKind.i64.wrap (3 * z) = 3 * z := by rw [IntWalk.i64_left]; exact IntWalk.wrap64_in _ (by omega)
    have w2 : IntKind.i64.wrap (3 * z * x) = 3 * z * x := by rw [IntWalk.i64_left]; exact IntWalk.wrap64_in _ (by omega)
    have w3 : IntKind.i64.wrap (3 * z * x - y) = n := by rw [← hn, IntWalk.i64_left]; exact IntWalk.wrap64_in _ (by omega)
    have w4 : IntKind.i64.wrap (r + p) = r + p := by rw [IntWalk.i64_left]; exact IntWalk.wrap64_in _ (by omega)
    clear hn hrem p1 p2 hr
    have l1 : IntKind.i64.wrap 1 = 1 := by decide
    have l2 : IntKind.i64.wrap 2 = 2 := by decide
    have l3 : IntKind.i64.wrap 3 = 3 := by decide
    have l4 : IntKind.i64.wrap 4 = 4 := by decide
    have m1 : (1 : Int).tmod 3 = 1 := by decide
    have m2 : (2 : Int).tmod 3 = 2 := by decide
    have m3 : (3 : Int).tmod 3 = 0 := by decide
    have m4 : (4 : Int).tmod 3 = 1 := by decide
    go_enter Try.func69, Try.ntmps69
    go_wp2_with fail
    refine (l1Own2_any ad 3 cap [x, y, z] _ rfl (by omega) H.out).mono ?_
    rintro e wa ⟨va, rfl, ho, hL⟩
    have hd := Later.drew wa
    replace hL := hL.trans hd
    replace ho := ho.later hd
    obtain ⟨g, cg, rfl, d0, d1, d2, hlo, hhi⟩ := ho.three
    have d3 : wa.drew.frozen? ⟨g, 1, none⟩ = false := ho.1.frozenAt 1
    replace c0 := hL.cell c0
    replace c1 := hL.cell c1
    replace c2 := hL.cell c2
    have HW : Hid (OwnInts w.heap.size wa.heap.size (wa.drew.setCell ⟨g, 1, none⟩ (.int .i64 q)) (.slice (some ⟨g, 0, none⟩) 3 cg) [x, q, z]) := hid ⟨by simpa using (ho.1.stored 1 (.int .i64 q)).1, ho.2⟩
    have HW2 := hid (show Later w (wa.drew.setCell ⟨g, 1, none⟩ (.int .i64 q)) from Below.setCell hL hlo _)
    have hsz : wa.drew.heap.size = wa.heap.size := rfl
    clear hL ho hd
    go_wp2_with fail
    go_still_tail 28, (by kernel_rfl)
    change wpList _ _ _ _ _ wa.drew
    generalize wa.drew = wd at *
    go_wp2_with fail
    go_ret
    rw [HQ.out]
    exact ⟨_, rfl, HW.out.wide (Nat.le_refl _) (by simp [World.setCell]; omega), HW2.out⟩
  · obtain ⟨p1, p2⟩ := mul_le18' hx hy
    have hT := hz.2
    have hT0 := hz.1
    have hA := hx.2
    have hA0 := hx.1
    obtain ⟨n, hn⟩ : ∃ n, 3 * x * y - z = n := ⟨_, rfl⟩
    have hr := tmod_in n p hp.1
    have hrem := remT_def n p
    obtain ⟨r, hr0⟩ : ∃ r, n.tmod p = r := ⟨_, rfl⟩
    rw [hr0] at hr hrem
    obtain ⟨q, hq⟩ : ∃ q, (r + p).tmod p = q := ⟨_, rfl⟩
    have HQ := hid (show modL p x y z 2 = [x, y, q] by show [x, y, remT (3 * x * y - z) p] = _; rw [hn, hrem, hq])
    have w1 : IntKind.i64.wrap (3 * x) = 3 * x := by rw [IntWalk.i64_left]; exact IntWalk.wrap64_in _ (by omega)
    have w2 : IntKind.i64.wrap (3 * x * y) = 3 * x * y := by rw [IntWalk.i64_left]; exact IntWalk.wrap64_in _ (by omega)
    have w3 : IntKind.i64.wrap (3 * x * y - z) = n := by rw [← hn, IntWalk.i64_left]; exact IntWalk.wrap64_in _ (by omega)
    have w4 : IntKind.i64.wrap (r + p) = r + p := by rw [IntWalk.i64_left]; exact IntWalk.wrap64_in _ (by omega)
    clear hn hrem p1 p2 hr
    have l1 : IntKind.i64.wrap 1 = 1 := by decide
    have l2 : IntKind.i64.wrap 2 = 2 := by decide
    have l3 : IntKind.i64.wrap 3 = 3 := by decide
    have l4 : IntKind.i64.wrap 4 = 4 := by decide
    have m1 : (1 : Int).tmod 3 = 1 := by decide
    have m2 : (2 : Int).tmod 3 = 2 := by decide
    have m3 : (3 : Int).tmod 3 = 0 := by decide
    have m4 : (4 : Int).tmod 3 = 1 := by decide
    go_enter Try.func69, Try.ntmps69
    go_wp2_with fail
    refine (l1Own2_any ad 3 cap [x, y, z] _ rfl (by omega) H.out).mono ?_
    rintro e wa ⟨va, rfl, ho, hL⟩
    have hd := Later.drew wa
    replace hL := hL.trans hd
    replace ho := ho.later hd
    obtain ⟨g, cg, rfl, d0, d1, d2, hlo, hhi⟩ := ho.three
    have d3 : wa.drew.frozen? ⟨g, 2, none⟩ = false := ho.1.frozenAt 2
    replace c0 := hL.cell c0
    replace c1 := hL.cell c1
    replace c2 := hL.cell c2
    have HW : Hid (OwnInts w.heap.size wa.heap.size (wa.drew.setCell ⟨g, 2, none⟩ (.int .i64 q)) (.slice (some ⟨g, 0, none⟩) 3 cg) [x, y, q]) := hid ⟨by simpa using (ho.1.stored 2 (.int .i64 q)).1, ho.2⟩
    have HW2 := hid (show Later w (wa.drew.setCell ⟨g, 2, none⟩ (.int .i64 q)) from Below.setCell hL hlo _)
    have hsz : wa.drew.heap.size = wa.heap.size := rfl
    clear hL ho hd
    go_wp2_with fail
    go_still_tail 28, (by kernel_rfl)
    change wpList _ _ _ _ _ wa.drew
    generalize wa.drew = wd at *
    go_wp2_with fail
    go_ret
    rw [HQ.out]
    exact ⟨_, rfl, HW.out.wide (Nat.le_refl _) (by simp [World.setCell]; omega), HW2.out⟩
end Go.Proofs.Ytjnhhjnfdaaaeab
