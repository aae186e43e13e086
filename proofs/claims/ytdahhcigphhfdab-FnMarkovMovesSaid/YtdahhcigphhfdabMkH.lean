/- Triples modulo a prime number: isModTriple (the program). -/
import Derived.Test.YtdahhcigphhfdabMkH2
namespace Go.Proofs.Ytdahhcigphhfdab
open Go.RowKit

end Go.Proofs.Ytdahhcigphhfdab
