/- Equations of Hurwitz: ClimbHurwitz (the model). -/
import Derived.Test.YtjnhhjnfdaaaeabHuV
namespace Go.Proofs.Ytjnhhjnfdaaaeab
open Go.RowKit

def climbL (a : Int) : List Int → List Int → Option (List Int)
  | zs, [] => some zs
  | zs, i :: is => match jumpL a zs i.toNat with
    | none => none
    | some ys => climbL a ys is
def wordB (word : List Int) (n : Nat) : Bool := decide (word.length ≤ 40) && word.all (within 0 ((n : Int) - 1))
def climbAns (zs : List Int) (a b : Int) (word : List Int) : Option (List Int) := if (givenB a b && solB zs a b) = true ∧ wordB word zs.length = true then climbL a zs word else none
theorem climbL_none {a : Int} {zs : List Int} {i : Int} {is : List Int} (h : jumpL a zs i.toNat = none) : climbL a zs (i :: is) = none := by simp [climbL, h]
theorem climbL_some {a : Int} {zs ys : List Int} {i : Int} {is : List Int} (h : jumpL a zs i.toNat = some ys) : climbL a zs (i :: is) = climbL a ys is := by simp [climbL, h]
theorem all_at {p : Int → Bool} {zs : List Int} (h : zs.all p = true) (k : Nat) (hk : k < zs.length) : p zs[k] = true := List.all_eq_true.1 h _ (List.getElem_mem hk)
theorem drop_consW (zs : List Int) (k : Nat) (h : k < zs.length) : zs.drop k = zs[k] :: zs.drop (k + 1) := List.drop_eq_getElem_cons h

end Go.Proofs.Ytjnhhjnfdaaaeab
