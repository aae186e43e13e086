/- Contracts of UnitMatrix in the model and in the program, and of matrixOf. -/
import Derived.Test.YtcgdegmhajfbaacUnit
namespace Go.Proofs.Ytcgdegmhajfbaac
open Go.RowKit

/-- what matrixOf makes of a grid -/
def ifGood (zss : List (List Int)) : Option (List (List Int)) := if goodM 1000000 zss then some zss else none
def PickMat (w : World) (v : Value) (zss : List (List Int)) (e : Ending) (w' : World) : Prop :=
  e = .returned (.tuple #[.agg #[if goodM 1000000 zss then v else .slice none 0 0], .bool (goodM 1000000 zss)]) ∧ Later w w'

def unitAns (n : Int) : Option (List (List Int)) := if 1 ≤ n ∧ n ≤ 4 then some (unitM n.toNat) else none
theorem unitAns_good (n : Nat) (h1 : 1 ≤ n) (h2 : n ≤ 4) : ifGood (unitM n) = some (unitM n) := by
  unfold ifGood
  rw [if_pos]
  have : n = 1 ∨ n = 2 ∨ n = 3 ∨ n = 4 := by omega
  rcases this with rfl | rfl | rfl | rfl <;> decide

end Go.Proofs.Ytcgdegmhajfbaac
