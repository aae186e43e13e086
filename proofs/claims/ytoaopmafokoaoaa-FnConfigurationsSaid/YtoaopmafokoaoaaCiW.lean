/- Circles: TurnCircle, FlipCircle, ShiftCircle, ReflectCircle (the program). -/
import Derived.Test.YtoaopmafokoaoaaCiN
import Derived.Test.YtoaopmafokoaoaaCiV
namespace Go.Proofs.Ytoaopmafokoaoaa
open Go.RowKit

theorem within_neg {z : Int} : within (-1000000) 1000000 (-z) = within (-1000000) 1000000 z := by
  unfold within
  rw [Bool.eq_iff_iff]
  simp only [Bool.and_eq_true, decide_eq_true_eq]
  omega
theorem ciB_turn (a b x y : Int) : ciB (a, b, -y, x) = ciB (a, b, x, y) := by
  unfold ciB ciIn
  simp only [List.all_cons, List.all_nil, within_neg, Int.neg_mul_neg]
  rw [Int.add_comm (y * y)]
  congr 1
  ac_rfl
theorem ciB_flip (a b x y : Int) : ciB (a, b, -x, y) = ciB (a, b, x, y) := by
  unfold ciB ciIn
  simp only [List.all_cons, List.all_nil, within_neg, Int.neg_mul_neg]
def turnAns (c : Ci4) : Option Ci4 := if ciB c = true then some (c.1, c.2.1, -c.2.2.2, c.2.2.1) else none
def flipAns (c : Ci4) : Option Ci4 := if ciB c = true then some (c.1, c.2.1, -c.2.2.1, c.2.2.2) else none
def shiftAns (c : Ci4) (u v : Int) : Option Ci4 := if ciB c = true ∧ within (-1000) 1000 u = true ∧ within (-1000) 1000 v = true ∧ ciB (shOf c u v) = true then some (shOf c u v) else none
def reflAns (c d : Ci4) : Option Ci4 := if ciB c = true ∧ ciB d = true ∧ ciB (plusOf c d (-(ciTw c d))) = true then some (plusOf c d (-(ciTw c d))) else none
theorem ci_of {a b x y : Int} (h : ciB (a, b, x, y) = true) : (-1000000 ≤ a ∧ a ≤ 1000000) ∧ (-1000000 ≤ b ∧ b ≤ 1000000) ∧ (-1000000 ≤ x ∧ x ≤ 1000000) ∧ (-1000000 ≤ y ∧ y ≤ 1000000) := ciIn_bd (ciB_in h)

theorem within_th {u : Int} (h : within (-1000) 1000 u = true) : -1000 ≤ u ∧ u ≤ 1000 := by simpa [within] using h
end Go.Proofs.Ytoaopmafokoaoaa
