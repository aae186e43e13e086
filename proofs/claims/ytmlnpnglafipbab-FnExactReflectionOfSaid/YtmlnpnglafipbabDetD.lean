/- DeterminantOf of the model. -/
import Derived.Test.YtmlnpnglafipbabDetF
import Derived.Test.YtmlnpnglafipbabForm
namespace Go.Proofs.Ytmlnpnglafipbab
open Go.RowKit

end Go.Proofs.Ytmlnpnglafipbab
