/- Equations of Hurwitz: the way down (the program). -/
import Derived.Test.YtjnhhjnfdaaaeabHuTr
import Derived.Test.YtjnhhjnfdaaaeabHuY
import Derived.Test.YtjnhhjnfdaaaeabHuDn
namespace Go.Proofs.Ytjnhhjnfdaaaeab
open Go.RowKit

/-- A solution as four numbers. -/
def QS (a b : Int) (s : So) : Prop := Sol (soL s) a b ∧ Q4 s.1 s.2.1 s.2.2.1 s.2.2.2
def WayRes (w : World) (a b : Int) (W : List (List Int)) (e : Ending) (w' : World) : Prop :=
  ∃ v L, e = .returned v ∧ OwnSols w.heap.size w' v L ∧ L.map soL = W ∧ (∀ s ∈ L, QS a b s) ∧ Later w w'

end Go.Proofs.Ytjnhhjnfdaaaeab
