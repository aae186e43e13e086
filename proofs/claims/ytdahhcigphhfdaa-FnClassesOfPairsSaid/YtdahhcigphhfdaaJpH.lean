/- Ways down and jumps from numbers (the program): descentFrom, behindJump. -/
import Derived.Test.YtdahhcigphhfdaaJpG
namespace Go.Proofs.Ytdahhcigphhfdaa
open Go.RowKit

theorem dnJ_keep {k : Int} (p q : Jp2) (h : jpN p) (e : dnJ k p = some q) : jpN q := (dnJ_good h e).1
theorem upJ_keep {k : Int} (p q : Jp2) (h : jpN p) (e : upJ k p = some q) : jpN q := upJ_good h e
section jh
variable {T : TypeId} {m : Value} {Ks Ko : FuncId} {S : Int → Int → Bool} {k : Int}
end jh
end Go.Proofs.Ytdahhcigphhfdaa
