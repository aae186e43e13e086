/- Products of matrices: the model's. -/
import Derived.Test.YtoaopmafokoaoabMul
import Derived.StillTailTactics
namespace Go.Proofs.Ytoaopmafokoaoab
open Go.RowKit

/-- rows before i are laid, of row i the columns before j; at (i, j) stands x -/
def sumSt (F : Nat → Nat → Int) (i j : Nat) (x : Int) : Nat → Nat → Int := fun a b => if a < i ∨ (a = i ∧ b < j) then F a b else if a = i ∧ b = j then x else 0
theorem sumSt_at (F : Nat → Nat → Int) (i j : Nat) (x : Int) : sumSt F i j x i j = x := by
  unfold sumSt; rw [if_neg (by omega), if_pos ⟨rfl, rfl⟩]
theorem sumSt_upd (F : Nat → Nat → Int) (i j : Nat) (x y : Int) : upd (sumSt F i j x) i j y = sumSt F i j y := by
  funext a b
  unfold upd sumSt
  by_cases h1 : a = i ∧ b = j
  · rw [if_pos h1, if_neg (by omega), if_pos h1]
  · simp only [if_neg h1]
theorem sumSt_next (F : Nat → Nat → Int) (i j : Nat) : sumSt F i j (F i j) = sumSt F i (j + 1) 0 := by
  funext a b
  unfold sumSt
  by_cases h1 : a < i ∨ (a = i ∧ b < j)
  · rw [if_pos h1, if_pos (by omega)]
  · by_cases h2 : a = i ∧ b = j
    · obtain ⟨rfl, rfl⟩ := h2
      rw [if_neg h1, if_pos ⟨rfl, rfl⟩, if_pos (by omega)]
    · rw [if_neg h1, if_neg h2, if_neg (by omega)]
      split <;> rfl
theorem sumSt_row (n : Nat) (F : Nat → Nat → Int) (i : Nat) : mk n (sumSt F i n 0) = mk n (sumSt F (i + 1) 0 0) := by
  refine mk_congr n _ _ fun a b ha hb => ?_
  unfold sumSt
  by_cases h1 : a < i ∨ (a = i ∧ b < n)
  · rw [if_pos h1, if_pos (by omega)]
  · rw [if_neg h1, if_neg (by omega), if_neg (by omega)]
    split <;> rfl
theorem sumSt_zero (n : Nat) (F : Nat → Nat → Int) : mk n (sumSt F 0 0 0) = zeroM n n := by
  have h : ∀ a b, sumSt F 0 0 0 a b = 0 := by
    intro a b; unfold sumSt; rw [if_neg (by omega)]; split <;> rfl
  apply List.ext_getElem
  · simp [mk, zeroM]
  · intro a h1 h2
    simp [mk, zeroM, h]
    exact (List.map_const' ..).symm ▸ by simp
theorem sumSt_full (n : Nat) (F : Nat → Nat → Int) : mk n (sumSt F n 0 0) = mk n F := by
  refine mk_congr n _ _ fun a b ha hb => ?_
  unfold sumSt
  rw [if_pos (Or.inl ha)]

end Go.Proofs.Ytoaopmafokoaoab
