/- Contracts of the comparisons of lists and of grids, and of IsSymmetric. -/
import Derived.Test.YtljikcajfmnnmabAnswer
namespace Go.Proofs.Ytljikcajfmnnmab
open Go.RowKit

def symW (m : List (List Int)) : Bool := eqLL m (transM m.length m)
end Go.Proofs.Ytljikcajfmnnmab
