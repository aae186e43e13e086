/- Four curvatures: slices.Index at ints, the index of the greatest number, a swap, the swap down, roots (the program). -/
import Derived.Test.YtofmmegpadojlabQdA
namespace Go.Proofs.Ytofmmegpadojlab
open Go.RowKit

theorem gIx_first (zs : List Int) : ∀ j, j < gIx zs → zs.getD j 0 ≠ zs.getD (gIx zs) 0 := fun j hj => by have := gTo_least zs zs.length j hj; unfold gIx; omega
def QuadRes (w : World) (zs : List Int) (e : Ending) (w' : World) : Prop := ∃ p q r s, zs = [p, q, r, s] ∧ e = .returned (.agg #[.int .i64 p, .int .i64 q, .int .i64 r, .int .i64 s]) ∧ Later w w'
set_option maxRecDepth 20000 in
set_option maxHeartbeats 2000000 in
theorem swapped_any (a b c d : Int) (i : Nat) (w : World) (hi : i < 4) (hm : Md a b c d) :
    Calls Try.prog 92 #[.agg #[.int .i64 a, .int .i64 b, .int .i64 c, .int .i64 d], .int .i64 i] w fun e w' => QuadRes w (swL [a, b, c, d] i) e w' := by
  have hA := Later.alloc w (.cells #[.int .i64 a, .int .i64 b, .int .i64 c, .int .i64 d] 108)
  have hA2 := Later.alloc (w.alloc (.cells #[.int .i64 a, .int .i64 b, .int .i64 c, .int .i64 d] 108)) (.cells #[.int .i64 0, .int .i64 0, .int .i64 0, .int .i64 0] 108)
  have HB := hid ((QBox.new w a b c d).later hA2)
  have hR := QBox.new (w.alloc (.cells #[.int .i64 a, .int .i64 b, .int .i64 c, .int .i64 d] 108)) 0 0 0 0
  rw [show (w.alloc (.cells #[.int .i64 a, .int .i64 b, .int .i64 c, .int .i64 d] 108)).heap.size = w.heap.size + 1 by simp] at hR
  have HR := hid hR
  have HL := hid (hA.trans hA2)
  have hmi := hm.getD i hi
  obtain ⟨x, hx⟩ : ∃ x, [a, b, c, d].getD i 0 = x := ⟨_, rfl⟩
  have HX := hid hx
  rw [hx] at hmi
  have HSW := hid (show swN [a, b, c, d] i = 2 * (a + b + c + d - x) - x by unfold swN; rw [sum4, hx])
  obtain ⟨x1, x2⟩ := hmi
  obtain ⟨s, hs⟩ : ∃ s, a + b + c + d = s := ⟨_, rfl⟩
  have hsb : -40000000 ≤ s ∧ s ≤ 40000000 := by have := hm.a1; have := hm.a2; have := hm.b1; have := hm.b2; have := hm.c1; have := hm.c2; have := hm.d1; have := hm.d2; omega
  obtain ⟨s1, s2⟩ := hsb
  have HSM := hid (fun (w0 : World) => sumS_as a b c d s w0 hm hs)
  rw [hs] at HSW
  have ww1 : IntKind.i64.wrap (s - x) = s - x := by rw [IntWalk.i64_left]; exact IntWalk.wrap64_in _ (by omega)
  have ww2 : IntKind.i64.wrap (2 * (s - x)) = 2 * (s - x) := by rw [IntWalk.i64_left]; exact IntWalk.wrap64_in _ (by omega)
  have ww3 : IntKind.i64.wrap (2 * (s - x) - x) = 2 * (s - x) - x := by rw [IntWalk.i64_left]; exact IntWalk.wrap64_in _ (by omega)
  have hiI : (i : Int) < 4 := by omega
  have i0 : (0 : Int) ≤ (i : Int) := by omega
  have HI := hid hi
  clear hA hA2 hR hm hx hs hi
  go_enter Try.func92, Try.ntmps92
  go_upto_region 1 with fail
  generalize (w.alloc (.cells #[.int .i64 a, .int .i64 b, .int .i64 c, .int .i64 d] 108)).alloc (.cells #[.int .i64 0, .int .i64 0, .int .i64 0, .int .i64 0] 108) = w1 at HB HR HL ⊢
  obtain ⟨B, hB⟩ : ∃ B, w.heap.size = B := ⟨_, rfl⟩
  have HBW := hid (show w.heap.size ≤ B by omega)
  rw [hB] at HB HR ⊢
  clear hB
  obtain ⟨c0, c1, c2, c3, f0, f1, f2, f3⟩ := HB.out
  have ci := (HB.out.at i HI.out).1
  have fi := (HB.out.at i HI.out).2
  rw [HX.out] at ci
  go_region_with (first | (go_at_call 125; refine (HSM.out _).mono ?_; rintro e w3 ⟨rfl, hL3⟩; have hL3' := (Later.drew w1).trans hL3; have di := hL3'.cell ci; have gi := hL3'.frozen ci fi; have HB3 := hid (HB.out.later hL3'); have HR3 := hid (HR.out.later hL3'); have HL3 := hid (HL.out.trans hL3'); clear hL3 hL3'))
  all_goals
    obtain ⟨p, q, r, t, he, hb4⟩ := HB3.out.one i HI.out (2 * (s - x) - x)
    have HB4 := hid hb4
    have HR4 := hid (HR3.out.keep (heap_setCell_other w3 ⟨B, i, none⟩ (B + 1) (.int .i64 (2 * (s - x) - x)) (by simp)))
    have HL4 := hid (show Later w (w3.setCell ⟨B, i, none⟩ (.int .i64 (2 * (s - x) - x))) from HL3.out.setCell HBW.out _)
    have HE := hid he
    generalize w3.setCell ⟨B, i, none⟩ (.int .i64 (2 * (s - x) - x)) = w4 at HB4 HR4 HL4 ⊢
    clear c0 c1 c2 c3 f0 f1 f2 f3 ci fi di gi he hb4
    obtain ⟨c0, c1, c2, c3, _, _, _, _⟩ := HB4.out
    obtain ⟨d0, d1, d2, d3, f0, f1, f2, f3⟩ := HR4.out
    go_wp2_with fail
    have HR5 := hid (HR4.out.set p q r t)
    have HL5 := hid (setQ_later HL4.out (show w.heap.size ≤ B + 1 by have := HBW.out; omega) p q r t)
    clear c0 c1 c2 c3 d0 d1 d2 d3 f0 f1 f2 f3
    generalize ((((w4.setCell ⟨B + 1, 0, none⟩ (.int .i64 p)).setCell ⟨B + 1, 1, none⟩ (.int .i64 q)).setCell ⟨B + 1, 2, none⟩ (.int .i64 r)).setCell ⟨B + 1, 3, none⟩ (.int .i64 t)) = w5 at HR5 HL5 ⊢
    obtain ⟨d0, d1, d2, d3, _, _, _, _⟩ := HR5.out
    refine bodyPost_ret (v := .agg #[.int .i64 p, .int .i64 q, .int .i64 r, .int .i64 t]) ?_ rfl ⟨p, q, r, t, by unfold swL; rw [HSW.out]; exact HE.out, rfl, HL5.out⟩
    rw [results_cellQ rfl]
    go_simp
end Go.Proofs.Ytofmmegpadojlab
