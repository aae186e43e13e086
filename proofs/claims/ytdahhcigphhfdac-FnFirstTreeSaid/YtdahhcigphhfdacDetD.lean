/- DeterminantOf of the model. -/
import Derived.Test.YtdahhcigphhfdacDetF
import Derived.Test.YtdahhcigphhfdacFoAp
namespace Go.Proofs.Ytdahhcigphhfdac
open Go.RowKit

end Go.Proofs.Ytdahhcigphhfdac
