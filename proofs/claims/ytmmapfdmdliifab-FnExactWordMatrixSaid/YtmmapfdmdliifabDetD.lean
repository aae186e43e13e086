/- DeterminantOf of the model. -/
import Derived.Test.YtmmapfdmdliifabDetF
import Derived.Test.YtmmapfdmdliifabForm
namespace Go.Proofs.Ytmmapfdmdliifab
open Go.RowKit

end Go.Proofs.Ytmmapfdmdliifab
