/- Equations of Hurwitz: IsHurwitz (the program). -/
import Derived.Test.YtkpnckcfoigceaaHuJ
namespace Go.Proofs.Ytkpnckcfoigceaa
open Go.RowKit

theorem Sol.good {zs : List Int} {a b : Int} (h : (givenB a b && solB zs a b) = true) : Sol zs a b := by
  rw [Bool.and_eq_true] at h; exact Sol.of h.1 h.2
theorem Sol.q4 {zs : List Int} {a b : Int} (h : Sol zs a b) : ∃ x y z t, zs = qL x y z t ∧ Q4 x y z t := q4_of h.in5 h.hl

end Go.Proofs.Ytkpnckcfoigceaa
