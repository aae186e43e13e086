/- The move modulo a prime number, in the program. -/
import Derived.Test.YtdahhcigphhfdabMkH
namespace Go.Proofs.Ytdahhcigphhfdab
open Go.RowKit

def modL (p x y z : Int) : Nat → List Int
  | 0 => [remT (3 * y * z - x) p, y, z]
  | 1 => [x, remT (3 * z * x - y) p, z]
  | _ => [x, y, remT (3 * x * y - z) p]

end Go.Proofs.Ytdahhcigphhfdab
