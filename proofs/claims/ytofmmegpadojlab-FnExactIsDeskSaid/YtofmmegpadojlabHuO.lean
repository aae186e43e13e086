/- Equations of Hurwitz: other roots (the model). -/
import Derived.Test.YtofmmegpadojlabHuS
import Derived.Test.YtofmmegpadojlabRowsKI
import Derived.Deep.RegionLaw
import Derived.Deep.RegionHeld3
namespace Go.Proofs.Ytofmmegpadojlab
open Go.RowKit

end Go.Proofs.Ytofmmegpadojlab
