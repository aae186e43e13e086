/- Contracts of the comparisons of lists and of grids, and of IsSymmetric. -/
import Derived.Test.YtofmmegpadojlaaAnswer
namespace Go.Proofs.Ytofmmegpadojlaa
open Go.RowKit

def symW (m : List (List Int)) : Bool := eqLL m (transM m.length m)
end Go.Proofs.Ytofmmegpadojlaa
