/- What a function leaves, by the kinds of its results. -/
import Derived.Test.YtcgdegmhajfbaacUnit2
namespace Go.Proofs.Ytcgdegmhajfbaac
open Go.RowKit

def BoolRes (w : World) (o : Bool) (e : Ending) (w' : World) : Prop := e = .returned (.bool o) ∧ Later w w'
def BoolAns (w : World) (o : Option Bool) (e : Ending) (w' : World) : Prop := e = .returned (.tuple #[.bool (o.getD false), .bool o.isSome]) ∧ Later w w'
def NumAns (w : World) (o : Option Int) (e : Ending) (w' : World) : Prop := e = .returned (.tuple #[.int .i64 (o.getD 0), .bool o.isSome]) ∧ Later w w'
def IntsAns (w : World) (o : Option (List Int)) (e : Ending) (w' : World) : Prop :=
  ∃ v, e = .returned (.tuple #[v, .bool o.isSome]) ∧ OwnInts w.heap.size w'.heap.size w' v (o.getD []) ∧ Later w w'
theorem eqLL_self (xs : List (List Int)) : eqLL xs xs = true := by simp [eqLL]
theorem eqL_self (xs : List Int) : eqL xs xs = true := by simp [eqL]
end Go.Proofs.Ytcgdegmhajfbaac
