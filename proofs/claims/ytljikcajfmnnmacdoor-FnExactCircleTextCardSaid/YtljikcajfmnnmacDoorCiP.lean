/- Circles: TwiceProduct, DoTouch (the model, the program). -/
import Derived.Test.YtljikcajfmnnmacDoorCiS
namespace Go.Proofs.YtljikcajfmnnmacDoor
open Go.RowKit

end Go.Proofs.YtljikcajfmnnmacDoor
