/- Equations of Hurwitz: other roots (the model). -/
import Derived.Test.YtljikcajfmnnmabHuS
import Derived.Test.YtljikcajfmnnmabIntC
import Derived.Deep.RegionLaw
import Derived.Deep.RegionHeld3
namespace Go.Proofs.Ytljikcajfmnnmab
open Go.RowKit

end Go.Proofs.Ytljikcajfmnnmab
