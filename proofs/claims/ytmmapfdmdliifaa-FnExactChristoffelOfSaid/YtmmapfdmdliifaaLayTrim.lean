/- A contract of Go's library, laid at this program: the table of numbers and the bodies' comparison. -/
import Derived.Test.YtmmapfdmdliifaaBase
import Derived.Shelf.Strings.SlTrimAscii
namespace Go.Proofs.Ytmmapfdmdliifaa
open Go.Shelf
end Go.Proofs.Ytmmapfdmdliifaa
