/- A contract of Go's library, laid at this program: the table of numbers and the bodies' comparison. -/
import Derived.Test.YtkpnckcfoigceaaBase
import Derived.Shelf.Strings.SlTrimAscii
namespace Go.Proofs.Ytkpnckcfoigceaa
open Go.Shelf
end Go.Proofs.Ytkpnckcfoigceaa
