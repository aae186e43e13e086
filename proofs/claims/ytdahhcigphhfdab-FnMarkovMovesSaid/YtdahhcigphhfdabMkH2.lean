/- Triples modulo a prime number: isModTriple (the program) at what is one. -/
import Derived.Test.YtdahhcigphhfdabMkD
import Derived.Shelf.SlSortCmp.QuietGrown
import Derived.Test.YtdahhcigphhfdabMkSR
import Derived.Test.YtdahhcigphhfdabMkM
import Derived.Test.YtdahhcigphhfdabMkO
namespace Go.Proofs.Ytdahhcigphhfdab
open Go.RowKit

theorem prime13_in {p : Int} (h : prime13 p = true) : 2 ≤ p ∧ p ≤ 13 := by have := (prime13_iff p).1 h; omega
open Go.Sort in
theorem Later.grow (w : World) (n : Nat) (os : Array Obj) : Later w (grow (w.drewN n) os) := (Later.drewN w n).trans ⟨rfl, rfl, rfl, by simp, fun _ hk => heap_grow_old _ _ hk⟩
def modOk (p : Int) (zs : List Int) : Bool := prime13 p && modGood p zs


end Go.Proofs.Ytdahhcigphhfdab
