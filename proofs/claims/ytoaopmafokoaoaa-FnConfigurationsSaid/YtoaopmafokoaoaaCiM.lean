/- Circles: shifts, turns, flips and reflections in the program. -/
import Derived.Test.YtoaopmafokoaoaaCiSP
import Derived.Deep.DeepCutAuto
import Derived.Laws.ResultCell
namespace Go.Proofs.Ytoaopmafokoaoaa
open Go.RowKit

theorem results_cellC {fn : Func} {p : Tmp} {ty : TypeId} (h : fn.results = #[.cell p ty]) (tmps : Array Value) (P : Program) (w : World) :
    (results fn tmps).run P w = ((asAddr (tmps.getD p undef)).run P w).andThen fun a w₁ => (loadVar ty a).run P w₁ := by
  simp only [results, h]
  simp [Sem.run_bind, Result.andThen]

def shOf (c : Ci4) (u v : Int) : Ci4 := (c.1 + (2 * (c.2.2.1 * u + c.2.2.2 * v) + c.2.1 * (u * u + v * v)), c.2.1, c.2.2.1 + c.2.1 * u, c.2.2.2 + c.2.1 * v)
def plusOf (c d : Ci4) (t : Int) : Ci4 := (c.1 + t * d.1, c.2.1 + t * d.2.1, c.2.2.1 + t * d.2.2.1, c.2.2.2 + t * d.2.2.2)
def Lo (z : Int) : Prop := -1000000000000000000 ≤ z ∧ z ≤ 1000000000000000000
def Hi (z : Int) : Prop := -8000000000000000000 ≤ z ∧ z ≤ 8000000000000000000
set_option maxRecDepth 20000 in
set_option maxHeartbeats 2000000 in
theorem plus_any (a b x y p q r s t : Int) (w : World) (ha : Lo a) (hb : Lo b) (hx : Lo x) (hy : Lo y) (hp : Hi (t * p)) (hq : Hi (t * q)) (hr : Hi (t * r)) (hs : Hi (t * s)) :
    Calls Try.prog 124 #[.agg #[.int .i64 a, .int .i64 b, .int .i64 x, .int .i64 y], .agg #[.int .i64 p, .int .i64 q, .int .i64 r, .int .i64 s], .int .i64 t] w fun e w' => CiRes w (plusOf (a, b, x, y) (p, q, r, s) t) e w' := by
  obtain ⟨a1, a2⟩ := ha
  obtain ⟨b1, b2⟩ := hb
  obtain ⟨x1, x2⟩ := hx
  obtain ⟨y1, y2⟩ := hy
  obtain ⟨p1, p2⟩ := hp
  obtain ⟨q1, q2⟩ := hq
  obtain ⟨r1, r2⟩ := hr
  obtain ⟨s1, s2⟩ := hs
  have HL := hid (((Later.alloc w (.cells #[.int .i64 a, .int .i64 b, .int .i64 x, .int .i64 y] 103)).trans (Later.alloc _ (.cells #[.int .i64 p, .int .i64 q, .int .i64 r, .int .i64 s] 103))).trans (Later.alloc _ (.cells #[.int .i64 (a + t * p), .int .i64 (b + t * q), .int .i64 (x + t * r), .int .i64 (y + t * s)] 103)))
  have HC := hid (CBox.new ((w.alloc (.cells #[.int .i64 a, .int .i64 b, .int .i64 x, .int .i64 y] 103)).alloc (.cells #[.int .i64 p, .int .i64 q, .int .i64 r, .int .i64 s] 103)) (a + t * p) (b + t * q) (x + t * r) (y + t * s) 103)
  rw [show ((w.alloc (.cells #[.int .i64 a, .int .i64 b, .int .i64 x, .int .i64 y] 103)).alloc (.cells #[.int .i64 p, .int .i64 q, .int .i64 r, .int .i64 s] 103)).heap.size = w.heap.size + 1 + 1 by simp] at HC
  go_enter Try.func124, Try.ntmps124
  go_wp2_with fail
  generalize ((w.alloc (.cells #[.int .i64 a, .int .i64 b, .int .i64 x, .int .i64 y] 103)).alloc (.cells #[.int .i64 p, .int .i64 q, .int .i64 r, .int .i64 s] 103)).alloc (.cells #[.int .i64 (a + t * p), .int .i64 (b + t * q), .int .i64 (x + t * r), .int .i64 (y + t * s)] 103) = w3 at HL HC ⊢
  obtain ⟨c0, c1, c2, c3⟩ := HC.out
  refine bodyPost_ret (v := .agg #[.int .i64 (a + t * p), .int .i64 (b + t * q), .int .i64 (x + t * r), .int .i64 (y + t * s)]) ?_ rfl ⟨rfl, HL.out⟩
  rw [results_cellC rfl]
  go_simp

theorem CBox.set {w : World} {B : Nat} {a b x y : Int} (h : CBox w B a b x y) (p q r s : Int) :
    CBox ((((w.setCell ⟨B, 0, none⟩ (.int .i64 p)).setCell ⟨B, 1, none⟩ (.int .i64 q)).setCell ⟨B, 2, none⟩ (.int .i64 r)).setCell ⟨B, 3, none⟩ (.int .i64 s)) B p q r s := by
  obtain ⟨c0, c1, c2, c3⟩ := h
  refine ⟨?_, ?_, ?_, ?_⟩
  · exact (World.cell?_setCell_other _ _ _ _ (by simp)).trans ((World.cell?_setCell_other _ _ _ _ (by simp)).trans ((World.cell?_setCell_other _ _ _ _ (by simp)).trans (World.cell?_setCell_same _ _ _ c0)))
  · exact (World.cell?_setCell_other _ _ _ _ (by simp)).trans ((World.cell?_setCell_other _ _ _ _ (by simp)).trans (World.cell?_setCell_same _ _ _ ((World.cell?_setCell_other _ _ _ _ (by simp)).trans c1)))
  · exact (World.cell?_setCell_other _ _ _ _ (by simp)).trans (World.cell?_setCell_same _ _ _ ((World.cell?_setCell_other _ _ _ _ (by simp)).trans ((World.cell?_setCell_other _ _ _ _ (by simp)).trans c2)))
  · exact World.cell?_setCell_same _ _ _ ((World.cell?_setCell_other _ _ _ _ (by simp)).trans ((World.cell?_setCell_other _ _ _ _ (by simp)).trans ((World.cell?_setCell_other _ _ _ _ (by simp)).trans c3)))
end Go.Proofs.Ytoaopmafokoaoaa
