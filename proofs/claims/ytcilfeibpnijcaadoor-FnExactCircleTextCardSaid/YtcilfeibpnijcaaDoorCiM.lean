/- Circles: shifts, turns, flips and reflections in the program. -/
import Derived.Test.YtcilfeibpnijcaaDoorCiP
import Derived.Deep.DeepCutAuto
import Derived.Laws.ResultCell
namespace Go.Proofs.YtcilfeibpnijcaaDoor
open Go.RowKit

theorem results_cellC {fn : Func} {p : Tmp} {ty : TypeId} (h : fn.results = #[.cell p ty]) (tmps : Array Value) (P : Program) (w : World) :
    (results fn tmps).run P w = ((asAddr (tmps.getD p undef)).run P w).andThen fun a w₁ => (loadVar ty a).run P w₁ := by
  simp only [results, h]
  simp [Sem.run_bind, Result.andThen]

def shOf (c : Ci4) (u v : Int) : Ci4 := (c.1 + (2 * (c.2.2.1 * u + c.2.2.2 * v) + c.2.1 * (u * u + v * v)), c.2.1, c.2.2.1 + c.2.1 * u, c.2.2.2 + c.2.1 * v)
def plusOf (c d : Ci4) (t : Int) : Ci4 := (c.1 + t * d.1, c.2.1 + t * d.2.1, c.2.2.1 + t * d.2.2.1, c.2.2.2 + t * d.2.2.2)
def Lo (z : Int) : Prop := -1000000000000000000 ≤ z ∧ z ≤ 1000000000000000000
def Hi (z : Int) : Prop := -8000000000000000000 ≤ z ∧ z ≤ 8000000000000000000
theorem CBox.set {w : World} {B : Nat} {a b x y : Int} (h : CBox w B a b x y) (p q r s : Int) :
    CBox ((((w.setCell ⟨B, 0, none⟩ (.int .i64 p)).setCell ⟨B, 1, none⟩ (.int .i64 q)).setCell ⟨B, 2, none⟩ (.int .i64 r)).setCell ⟨B, 3, none⟩ (.int .i64 s)) B p q r s := by
  obtain ⟨c0, c1, c2, c3⟩ := h
  refine ⟨?_, ?_, ?_, ?_⟩
  · exact (World.cell?_setCell_other _ _ _ _ (by simp)).trans ((World.cell?_setCell_other _ _ _ _ (by simp)).trans ((World.cell?_setCell_other _ _ _ _ (by simp)).trans (World.cell?_setCell_same _ _ _ c0)))
  · exact (World.cell?_setCell_other _ _ _ _ (by simp)).trans ((World.cell?_setCell_other _ _ _ _ (by simp)).trans (World.cell?_setCell_same _ _ _ ((World.cell?_setCell_other _ _ _ _ (by simp)).trans c1)))
  · exact (World.cell?_setCell_other _ _ _ _ (by simp)).trans (World.cell?_setCell_same _ _ _ ((World.cell?_setCell_other _ _ _ _ (by simp)).trans ((World.cell?_setCell_other _ _ _ _ (by simp)).trans c2)))
  · exact World.cell?_setCell_same _ _ _ ((World.cell?_setCell_other _ _ _ _ (by simp)).trans ((World.cell?_setCell_other _ _ _ _ (by simp)).trans ((World.cell?_setCell_other _ _ _ _ (by simp)).trans c3)))
end Go.Proofs.YtcilfeibpnijcaaDoor
