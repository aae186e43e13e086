/- A contract of Go's library, laid at this program: the table of numbers and the bodies' comparison. -/
import Derived.Test.YtjnhhjnfdaaaeabBase
import Derived.Shelf.SlicesQ.Reverse
namespace Go.Proofs.Ytjnhhjnfdaaaeab
open Go.Shelf
end Go.Proofs.Ytjnhhjnfdaaaeab
