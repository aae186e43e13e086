/- HuO, HuP: in one text. -/
import Derived.Test.YtoaopmafokoaoabHuS
import Derived.Test.YtoaopmafokoaoabRowsKI
import Derived.Deep.RegionLaw
import Derived.Deep.RegionHeld3
namespace Go.Proofs.Ytoaopmafokoaoab
open Go.RowKit


theorem Sol.oth_bd {zs : List Int} {a b : Int} (h : Sol zs a b) (i : Nat) (hi : i < zs.length) : -100000 ≤ othL a zs i ∧ othL a zs i ≤ 40000000050 := by
  have h1 := h.rest_bd i hi
  have h2 := h.in5 (zs.getD i 0) (by simp [hi])
  unfold othL
  omega

def othAns (zs : List Int) (a b i : Int) : Option Int := if (givenB a b && solB zs a b) = true ∧ within 0 ((zs.length : Int) - 1) i = true then some (othL a zs i.toNat) else none
theorem within_idx {n : Nat} {i : Int} : within 0 ((n : Int) - 1) i = true ↔ 0 ≤ i ∧ i < (n : Int) := by simp only [within, Bool.and_eq_true, decide_eq_true_eq]; omega
def fundAns (zs : List Int) (a b : Int) : Option Bool := if (givenB a b && solB zs a b) = true then some (lastB a zs) else none
end Go.Proofs.Ytoaopmafokoaoab
