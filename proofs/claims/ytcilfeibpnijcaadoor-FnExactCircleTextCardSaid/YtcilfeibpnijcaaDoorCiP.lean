/- Circles: TwiceProduct, DoTouch (the model, the program). -/
import Derived.Test.YtcilfeibpnijcaaDoorCiS
namespace Go.Proofs.YtcilfeibpnijcaaDoor
open Go.RowKit

end Go.Proofs.YtcilfeibpnijcaaDoor
