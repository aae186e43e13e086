/- DeterminantOf of the model. -/
import Derived.Test.YtkpnckcfoigceaaDetF
import Derived.Test.YtkpnckcfoigceaaForm
namespace Go.Proofs.Ytkpnckcfoigceaa
open Go.RowKit

end Go.Proofs.Ytkpnckcfoigceaa
