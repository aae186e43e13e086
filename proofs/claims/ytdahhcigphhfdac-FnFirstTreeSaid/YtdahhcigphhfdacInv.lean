/- InverseOf: the program's. -/
import Derived.Test.YtdahhcigphhfdacDetD
namespace Go.Proofs.Ytdahhcigphhfdac
open Go.RowKit

def adjAt (n : Nat) (m : List (List Int)) (i j : Nat) : Int := wrap64 (sgn (i + j) * det n (minorM n m j i))
def adjM (n : Nat) (m : List (List Int)) : List (List Int) := mk (n + 1) (adjAt n m)
def invAt (d : Int) (n : Nat) (m : List (List Int)) (i j : Nat) : Int := wrap64 (d * adjAt n m i j)
def invM (d : Int) (n : Nat) (m : List (List Int)) : List (List Int) := mk (n + 1) (invAt d n m)

def unitDet (m : List (List Int)) : Prop := det m.length m = 1 ∨ det m.length m = -1
instance (m : List (List Int)) : Decidable (unitDet m) := by unfold unitDet; infer_instance
def invAns (m : List (List Int)) : Option (List (List Int)) := if goodM 1000 m = true ∧ unitDet m then ifGood (invM (det m.length m) (m.length - 1) m) else none

end Go.Proofs.Ytdahhcigphhfdac
