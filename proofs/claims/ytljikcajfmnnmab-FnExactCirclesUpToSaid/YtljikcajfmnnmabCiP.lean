/- Circles: TwiceProduct, DoTouch (the model, the program). -/
import Derived.Test.YtljikcajfmnnmabCiS
namespace Go.Proofs.Ytljikcajfmnnmab
open Go.RowKit

end Go.Proofs.Ytljikcajfmnnmab
