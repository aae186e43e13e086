/- What a function leaves that answers with two numbers, or with ints and a number. -/
import Derived.Test.YtoaopmafokoaoaaBasB
namespace Go.Proofs.Ytoaopmafokoaoaa
open Go.RowKit

def PairAns (w : World) (o : Option (Int × Int)) (e : Ending) (w' : World) : Prop := e = .returned (.tuple #[.int .i64 (o.getD (0, 0)).1, .int .i64 (o.getD (0, 0)).2, .bool o.isSome]) ∧ Later w w'
def InAns (w : World) (o : Option (List Int × Int)) (e : Ending) (w' : World) : Prop :=
  ∃ v, e = .returned (.tuple #[v, .int .i64 (o.getD ([], 0)).2, .bool o.isSome]) ∧ OwnInts w.heap.size w'.heap.size w' v (o.getD ([], 0)).1 ∧ Later w w'
end Go.Proofs.Ytoaopmafokoaoaa
