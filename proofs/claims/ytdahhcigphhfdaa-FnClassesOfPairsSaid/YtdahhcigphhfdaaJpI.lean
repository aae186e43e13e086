/- Jumps from numbers (the program): behindJump. -/
import Derived.Test.YtdahhcigphhfdaaJpF
namespace Go.Proofs.Ytdahhcigphhfdaa
open Go.RowKit

section jh
variable {T : TypeId} {m : Value} {Ks Ko : FuncId} {S : Int → Int → Bool} {k : Int}
end jh
end Go.Proofs.Ytdahhcigphhfdaa
