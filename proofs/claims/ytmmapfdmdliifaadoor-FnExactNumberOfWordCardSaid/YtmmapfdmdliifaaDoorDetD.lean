/- DeterminantOf of the model. -/
import Derived.Test.YtmmapfdmdliifaaDoorDetF
import Derived.Test.YtmmapfdmdliifaaDoorForm
namespace Go.Proofs.YtmmapfdmdliifaaDoor
open Go.RowKit

end Go.Proofs.YtmmapfdmdliifaaDoor
