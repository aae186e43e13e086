/- Equations of Hurwitz: other roots (the model). -/
import Derived.Test.YtpkdikfjcbmcbabHuS
import Derived.Test.YtpkdikfjcbmcbabIntC
import Derived.Deep.RegionLaw
import Derived.Deep.RegionHeld3
namespace Go.Proofs.Ytpkdikfjcbmcbab
open Go.RowKit

end Go.Proofs.Ytpkdikfjcbmcbab
