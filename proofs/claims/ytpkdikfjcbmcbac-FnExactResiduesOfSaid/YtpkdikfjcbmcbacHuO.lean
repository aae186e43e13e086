/- Equations of Hurwitz: other roots (the model). -/
import Derived.Test.YtpkdikfjcbmcbacHuS
import Derived.Test.YtpkdikfjcbmcbacIntC
import Derived.Deep.RegionLaw
import Derived.Deep.RegionHeld3
namespace Go.Proofs.Ytpkdikfjcbmcbac
open Go.RowKit

end Go.Proofs.Ytpkdikfjcbmcbac
