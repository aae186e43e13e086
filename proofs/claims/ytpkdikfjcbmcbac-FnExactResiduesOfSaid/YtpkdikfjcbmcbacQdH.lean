/- Four curvatures: list, FollowSwaps, SwapAt, ScaleOf (the program). -/
import Derived.Test.YtpkdikfjcbmcbacQdD
import Derived.Test.YtpkdikfjcbmcbacQdF
import Derived.Test.YtpkdikfjcbmcbacLayCloneI
namespace Go.Proofs.Ytpkdikfjcbmcbac
open Go.RowKit

end Go.Proofs.Ytpkdikfjcbmcbac
