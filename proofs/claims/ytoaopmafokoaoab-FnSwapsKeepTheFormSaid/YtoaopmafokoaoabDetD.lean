/- DeterminantOf of the model. -/
import Derived.Test.YtoaopmafokoaoabDetF
import Derived.Test.YtoaopmafokoaoabFoAp
namespace Go.Proofs.Ytoaopmafokoaoab
open Go.RowKit

end Go.Proofs.Ytoaopmafokoaoab
