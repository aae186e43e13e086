/- A contract of Go's library, laid at this program: the table of numbers and the bodies' comparison. -/
import Derived.Test.YtpkdikfjcbmcbacBase
import Derived.Shelf.Slices.Clone
namespace Go.Proofs.Ytpkdikfjcbmcbac
open Go.Shelf
end Go.Proofs.Ytpkdikfjcbmcbac
