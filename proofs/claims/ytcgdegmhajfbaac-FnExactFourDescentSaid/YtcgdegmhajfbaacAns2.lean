/- What a function leaves that answers with a slice of slices of ints. -/
import Derived.Test.YtcgdegmhajfbaacAns
namespace Go.Proofs.Ytcgdegmhajfbaac
open Go.RowKit

def RowsAns (w : World) (o : Option (List (List Int))) (e : Ending) (w' : World) : Prop :=
  ∃ v, e = .returned (.tuple #[v, .bool o.isSome]) ∧ OwnRows w.heap.size w'.heap.size w' v (o.getD []) ∧ Later w w'
end Go.Proofs.Ytcgdegmhajfbaac
