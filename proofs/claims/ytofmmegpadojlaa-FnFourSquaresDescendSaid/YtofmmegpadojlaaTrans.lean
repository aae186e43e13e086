/- Contracts of the transposes. -/
import Derived.Test.YtofmmegpadojlaaSq
namespace Go.Proofs.Ytofmmegpadojlaa
open Go.RowKit

def transM (n : Nat) (m : List (List Int)) : List (List Int) := mk n fun i j => ent m j i

/-- entries that the model has laid: rows below i, and of row i those below j -/
def trState (m : List (List Int)) (i j : Nat) : Nat → Nat → Int := fun a b => if b < i ∨ (b = i ∧ a < j) then ent m b a else 0
theorem trState_step (m : List (List Int)) (i j : Nat) : upd (trState m i j) j i (ent m i j) = trState m i (j + 1) := by
  funext a b
  unfold upd trState
  by_cases h1 : a = j ∧ b = i
  · obtain ⟨rfl, rfl⟩ := h1; simp
  · rw [if_neg h1]
    have : (b < i ∨ b = i ∧ a < j) ↔ (b < i ∨ b = i ∧ a < j + 1) := by omega
    simp only [this]
theorem trState_next (n : Nat) (m : List (List Int)) (i : Nat) : mk n (trState m i n) = mk n (trState m (i + 1) 0) := by
  refine mk_congr n _ _ fun a b ha hb => ?_
  unfold trState
  have : (b < i ∨ b = i ∧ a < n) ↔ (b < i + 1 ∨ b = i + 1 ∧ a < 0) := by omega
  simp only [this]
theorem trState_zero (n : Nat) (m : List (List Int)) : mk n (trState m 0 0) = zeroM n n := by
  apply List.ext_getElem
  · simp [mk, zeroM]
  · intro a h1 h2
    simp [mk, zeroM, trState]
    exact (List.map_const' ..).symm ▸ by simp
theorem trState_full (n : Nat) (m : List (List Int)) : mk n (trState m n 0) = transM n m := by
  refine mk_congr n _ _ fun a b ha hb => ?_
  unfold trState
  rw [if_pos (Or.inl hb)]

end Go.Proofs.Ytofmmegpadojlaa
