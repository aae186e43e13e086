/- Equations of Hurwitz: other roots (the model). -/
import Derived.Test.YtpkdikfjcbmcbaaHuS
import Derived.Test.YtpkdikfjcbmcbaaIntC
import Derived.Deep.RegionLaw
import Derived.Deep.RegionHeld3
namespace Go.Proofs.Ytpkdikfjcbmcbaa
open Go.RowKit

end Go.Proofs.Ytpkdikfjcbmcbaa
