/- Circles: the image in a reflection (the program). -/
import Derived.Test.YtljikcajfmnnmaaCiM
import Derived.Deep.DeepCutAuto
namespace Go.Proofs.Ytljikcajfmnnmaa
open Go.RowKit

theorem mulT_hi {T p : Int} (hT : -6000000000000 ≤ T ∧ T ≤ 6000000000000) (hp : -1000000 ≤ p ∧ p ≤ 1000000) : Hi (-T * p) := by
  have := mulM_bd (p := -T) (q := p) (M := 6000000000000) (N := 1000000) ⟨by omega, by omega⟩ hp
  unfold Hi; omega
set_option maxRecDepth 20000 in
set_option maxHeartbeats 2000000 in
theorem reflImage_any (a b x y p q r s : Int) (w : World) (hc : ciIn (a, b, x, y) = true) (hd : ciIn (p, q, r, s) = true) :
    Calls Try.prog 57 #[.agg #[.int .i64 p, .int .i64 q, .int .i64 r, .int .i64 s], .agg #[.int .i64 a, .int .i64 b, .int .i64 x, .int .i64 y]] w fun e w' => CiRes w (plusOf (a, b, x, y) (p, q, r, s) (-(ciTw (a, b, x, y) (p, q, r, s)))) e w' := by
  obtain ⟨⟨a1, a2⟩, ⟨b1, b2⟩, ⟨x1, x2⟩, y1, y2⟩ := ciIn_bd hc
  obtain ⟨⟨p1, p2⟩, ⟨q1, q2⟩, ⟨r1, r2⟩, s1, s2⟩ := ciIn_bd hd
  have HTW := hid (fun w0 => twiceP_any a b x y p q r s w0 hc hd)
  have hT := ciTw_bd hc hd
  obtain ⟨T, hTT⟩ : ∃ T, ciTw (a, b, x, y) (p, q, r, s) = T := ⟨_, rfl⟩
  rw [hTT] at HTW hT ⊢
  have HPL := hid (fun w0 => plus_any a b x y p q r s (-T) w0 ⟨by omega, by omega⟩ ⟨by omega, by omega⟩ ⟨by omega, by omega⟩ ⟨by omega, by omega⟩ (mulT_hi hT ⟨p1, p2⟩) (mulT_hi hT ⟨q1, q2⟩) (mulT_hi hT ⟨r1, r2⟩) (mulT_hi hT ⟨s1, s2⟩))
  obtain ⟨R, hR⟩ : ∃ R, plusOf (a, b, x, y) (p, q, r, s) (-T) = R := ⟨_, rfl⟩
  rw [hR] at HPL ⊢
  obtain ⟨ra, rb, rx, ry⟩ := R
  have hneg : IntKind.i64.wrap (-T) = -T := wr64 (by omega)
  clear hTT hR hc hd a1 a2 b1 b2 x1 x2 y1 y2 p1 p2 q1 q2 r1 r2 s1 s2 hT
  have HL := hid (((Later.alloc w (.cells #[.int .i64 p, .int .i64 q, .int .i64 r, .int .i64 s] 53)).trans (Later.alloc _ (.cells #[.int .i64 a, .int .i64 b, .int .i64 x, .int .i64 y] 25))).trans (Later.alloc _ (.cells #[.int .i64 0, .int .i64 0, .int .i64 0, .int .i64 0] 25)))
  obtain ⟨d0, d1, d2, d3⟩ := ((CBox.new w p q r s 53).later (Later.alloc _ (.cells #[.int .i64 a, .int .i64 b, .int .i64 x, .int .i64 y] 25))).later (Later.alloc _ (.cells #[.int .i64 0, .int .i64 0, .int .i64 0, .int .i64 0] 25))
  obtain ⟨c0, c1, c2, c3⟩ := (CBox.new (w.alloc (.cells #[.int .i64 p, .int .i64 q, .int .i64 r, .int .i64 s] 53)) a b x y 25).later (Later.alloc _ (.cells #[.int .i64 0, .int .i64 0, .int .i64 0, .int .i64 0] 25))
  rw [show (w.alloc (.cells #[.int .i64 p, .int .i64 q, .int .i64 r, .int .i64 s] 53)).heap.size = w.heap.size + 1 by simp] at c0 c1 c2 c3
  obtain ⟨e0, e1, e2, e3⟩ := CBox.new ((w.alloc (.cells #[.int .i64 p, .int .i64 q, .int .i64 r, .int .i64 s] 53)).alloc (.cells #[.int .i64 a, .int .i64 b, .int .i64 x, .int .i64 y] 25)) 0 0 0 0 25
  have f0 : ∀ j, (((w.alloc (.cells #[.int .i64 p, .int .i64 q, .int .i64 r, .int .i64 s] 53)).alloc (.cells #[.int .i64 a, .int .i64 b, .int .i64 x, .int .i64 y] 25)).alloc (.cells #[.int .i64 0, .int .i64 0, .int .i64 0, .int .i64 0] 25)).frozen? ⟨w.heap.size + 1 + 1, j, none⟩ = false := fun j => by simp [go_sem]
  rw [show ((w.alloc (.cells #[.int .i64 p, .int .i64 q, .int .i64 r, .int .i64 s] 53)).alloc (.cells #[.int .i64 a, .int .i64 b, .int .i64 x, .int .i64 y] 25)).heap.size = w.heap.size + 1 + 1 by simp] at e0 e1 e2 e3
  go_enter Try.func57, Try.ntmps57
  go_wp2_with fail
  generalize ((w.alloc (.cells #[.int .i64 p, .int .i64 q, .int .i64 r, .int .i64 s] 53)).alloc (.cells #[.int .i64 a, .int .i64 b, .int .i64 x, .int .i64 y] 25)).alloc (.cells #[.int .i64 0, .int .i64 0, .int .i64 0, .int .i64 0] 25) = w3 at HL c0 c1 c2 c3 d0 d1 d2 d3 e0 e1 e2 e3 f0 ⊢
  have HE := hid (show CBox w3 (w.heap.size + 1 + 1) 0 0 0 0 from ⟨e0, e1, e2, e3⟩)
  have HF := hid f0
  have HC := hid (show CBox w3 (w.heap.size + 1) a b x y from ⟨c0, c1, c2, c3⟩)
  have HD := hid (show CBox w3 w.heap.size p q r s from ⟨d0, d1, d2, d3⟩)
  have TOK := hid True.intro
  have k0 : ∀ (W : World) (u0 u1 u2 u3 : Value), ((((W.setCell ⟨w.heap.size + 1 + 1, 0, none⟩ u0).setCell ⟨w.heap.size + 1 + 1, 1, none⟩ u1).setCell ⟨w.heap.size + 1 + 1, 2, none⟩ u2).setCell ⟨w.heap.size + 1 + 1, 3, none⟩ u3).heap[w.heap.size]? = W.heap[w.heap.size]? := fun W u0 u1 u2 u3 => set4_far W _ 0 _ u0 u1 u2 u3 (by omega)
  have k1 : ∀ (W : World) (u0 u1 u2 u3 : Value), ((((W.setCell ⟨w.heap.size + 1 + 1, 0, none⟩ u0).setCell ⟨w.heap.size + 1 + 1, 1, none⟩ u1).setCell ⟨w.heap.size + 1 + 1, 2, none⟩ u2).setCell ⟨w.heap.size + 1 + 1, 3, none⟩ u3).heap[w.heap.size + 1]? = W.heap[w.heap.size + 1]? := fun W u0 u1 u2 u3 => set4_far W _ 0 _ u0 u1 u2 u3 (by omega)
  clear e0 e1 e2 e3 f0
  have c0 := (Later.drew w3).cell c0
  have c1 := (Later.drew w3).cell c1
  have c2 := (Later.drew w3).cell c2
  have c3 := (Later.drew w3).cell c3
  have d0 := (Later.drew w3).cell d0
  have d1 := (Later.drew w3).cell d1
  have d2 := (Later.drew w3).cell d2
  have d3 := (Later.drew w3).cell d3
  go_region_held3 (fun w' => w'.cell? ⟨w.heap.size, 0, none⟩ = some (.int .i64 p) ∧ w'.cell? ⟨w.heap.size, 1, none⟩ = some (.int .i64 q) ∧ w'.cell? ⟨w.heap.size, 2, none⟩ = some (.int .i64 r) ∧ w'.cell? ⟨w.heap.size, 3, none⟩ = some (.int .i64 s) ∧ w'.cell? ⟨w.heap.size + 1, 0, none⟩ = some (.int .i64 a) ∧ w'.cell? ⟨w.heap.size + 1, 1, none⟩ = some (.int .i64 b) ∧ w'.cell? ⟨w.heap.size + 1, 2, none⟩ = some (.int .i64 x) ∧ w'.cell? ⟨w.heap.size + 1, 3, none⟩ = some (.int .i64 y)) (first | exact ⟨d0, d1, d2, d3, c0, c1, c2, c3⟩ | exact ⟨m0, m1, m2, m3, n0, n1, n2, n3⟩ | exact ⟨u0, u1, u2, u3, v0, v1, v2, v3⟩ | exact ⟨cell_keep u0 (k0 _ _ _ _ _), cell_keep u1 (k0 _ _ _ _ _), cell_keep u2 (k0 _ _ _ _ _), cell_keep u3 (k0 _ _ _ _ _), cell_keep v0 (k1 _ _ _ _ _), cell_keep v1 (k1 _ _ _ _ _), cell_keep v2 (k1 _ _ _ _ _), cell_keep v3 (k1 _ _ _ _ _)⟩) (first | (have hh := TOK; clear hh; go_at_call 30; refine (HTW.out _).mono ?_; rintro e w4 ⟨rfl, hL4⟩; have HL4 := hid ((Later.drew w3).trans hL4); obtain ⟨m0, m1, m2, m3⟩ := HD.out.later HL4.out; obtain ⟨n0, n1, n2, n3⟩ := HC.out.later HL4.out; clear TOK hL4) | (go_at_call 58; refine (HPL.out _).mono ?_; rintro e w5 ⟨rfl, hL5⟩; have HL5 := hid (HL4.out.trans hL5); obtain ⟨u0, u1, u2, u3⟩ := HD.out.later HL5.out; obtain ⟨v0, v1, v2, v3⟩ := HC.out.later HL5.out; obtain ⟨e0, e1, e2, e3⟩ := HE.out.later HL5.out; have f0 := HL5.out.frozen HE.out.1 (HF.out 0); have f1 := HL5.out.frozen HE.out.2.1 (HF.out 1); have f2 := HL5.out.frozen HE.out.2.2.1 (HF.out 2); have f3 := HL5.out.frozen HE.out.2.2.2 (HF.out 3); clear hL5))
  have HL6 : Hid (Later w ((((w5.setCell ⟨w.heap.size + 1 + 1, 0, none⟩ (.int .i64 ra)).setCell ⟨w.heap.size + 1 + 1, 1, none⟩ (.int .i64 rb)).setCell ⟨w.heap.size + 1 + 1, 2, none⟩ (.int .i64 rx)).setCell ⟨w.heap.size + 1 + 1, 3, none⟩ (.int .i64 ry))) := hid (set4_later (HL.out.trans HL5.out) (by omega) 0 _ _ _ _)
  have HC6 := hid ((HE.out.later HL5.out).set ra rb rx ry)
  generalize ((((w5.setCell ⟨w.heap.size + 1 + 1, 0, none⟩ (.int .i64 ra)).setCell ⟨w.heap.size + 1 + 1, 1, none⟩ (.int .i64 rb)).setCell ⟨w.heap.size + 1 + 1, 2, none⟩ (.int .i64 rx)).setCell ⟨w.heap.size + 1 + 1, 3, none⟩ (.int .i64 ry)) = w6 at HL6 HC6 ⊢
  obtain ⟨g0, g1, g2, g3⟩ := HC6.out
  clear u0 u1 u2 u3 v0 v1 v2 v3 e0 e1 e2 e3 m0 m1 m2 m3 n0 n1 n2 n3
  go_wp2_with fail
  refine bodyPost_ret (v := .agg #[.int .i64 ra, .int .i64 rb, .int .i64 rx, .int .i64 ry]) ?_ rfl ⟨rfl, HL6.out⟩
  rw [results_cellC rfl]
  go_simp
end Go.Proofs.Ytljikcajfmnnmaa
