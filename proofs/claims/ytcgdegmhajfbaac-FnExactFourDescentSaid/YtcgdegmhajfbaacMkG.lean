/- Contracts of IsMarkov. -/
import Derived.Test.YtcgdegmhajfbaacMkT
namespace Go.Proofs.Ytcgdegmhajfbaac
open Go.RowKit

def mkGoodW (zs : List Int) : Bool := decide (zs.length = 3) && areCnt zs && decide (zs.getD 0 0 ≤ zs.getD 1 0) && decide (zs.getD 1 0 ≤ zs.getD 2 0) && solves3 (zs.getD 0 0) (zs.getD 1 0) (zs.getD 2 0)
theorem mkGoodW3 (x y z : Int) : mkGoodW [x, y, z] = (areCnt [x, y, z] && decide (x ≤ y) && decide (y ≤ z) && solves3 x y z) := by simp [mkGoodW]
/-- A list that is a triple. -/
theorem mkGoodW_three {zs : List Int} (h : mkGoodW zs = true) : ∃ x y z, zs = [x, y, z] ∧ (1 ≤ x ∧ x ≤ 1000000000) ∧ (1 ≤ y ∧ y ≤ 1000000000) ∧ (1 ≤ z ∧ z ≤ 1000000000) ∧ x ≤ y ∧ y ≤ z ∧ x * x + y * y + z * z = 3 * x * y * z := by
  have h3 : zs.length = 3 := by simp only [mkGoodW, Bool.and_eq_true, decide_eq_true_eq] at h; exact h.1.1.1.1
  match zs, h3 with
  | [x, y, z], _ =>
    rw [mkGoodW3] at h
    simp only [Bool.and_eq_true, decide_eq_true_eq, solves3] at h
    have := areCnt3 h.1.1.1
    exact ⟨x, y, z, rfl, this.1, this.2.1, this.2.2, h.1.1.2, h.1.2, h.2⟩

def Quiet (w w' : World) : Prop := ∃ n, w' = w.drewN n
theorem Quiet.later {w w' : World} (h : Quiet w w') : Later w w' := by obtain ⟨n, rfl⟩ := h; exact Later.drewN _ _
theorem Quiet.refl (w : World) : Quiet w w := ⟨0, rfl⟩

/-! ### slices.IsSorted at three numbers -/

end Go.Proofs.Ytcgdegmhajfbaac
