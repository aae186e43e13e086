/- Inv, InvS: in one text. -/
import Derived.Test.YtoaopmafokoaoabDetD
namespace Go.Proofs.Ytoaopmafokoaoab
open Go.RowKit


def adjAt (n : Nat) (m : List (List Int)) (i j : Nat) : Int := wrap64 (sgn (i + j) * det n (minorM n m j i))
def adjM (n : Nat) (m : List (List Int)) : List (List Int) := mk (n + 1) (adjAt n m)
def invAt (d : Int) (n : Nat) (m : List (List Int)) (i j : Nat) : Int := wrap64 (d * adjAt n m i j)
def invM (d : Int) (n : Nat) (m : List (List Int)) : List (List Int) := mk (n + 1) (invAt d n m)

def unitDet (m : List (List Int)) : Prop := det m.length m = 1 ∨ det m.length m = -1
instance (m : List (List Int)) : Decidable (unitDet m) := by unfold unitDet; infer_instance
def invAns (m : List (List Int)) : Option (List (List Int)) := if goodM 1000 m = true ∧ unitDet m then ifGood (invM (det m.length m) (m.length - 1) m) else none

/-- entries laid column by column: columns before i, and of column i the rows before j -/
def fillSt (F : Nat → Nat → Int) (i j : Nat) : Nat → Nat → Int := fun a b => if b < i ∨ (b = i ∧ a < j) then F a b else 0
theorem fillSt_step (F : Nat → Nat → Int) (i j : Nat) (x : Int) (hx : x = F j i) : upd (fillSt F i j) j i x = fillSt F i (j + 1) := by
  subst hx
  funext a b
  unfold upd fillSt
  by_cases h1 : a = j ∧ b = i
  · obtain ⟨rfl, rfl⟩ := h1; simp
  · rw [if_neg h1]
    have : (b < i ∨ b = i ∧ a < j) ↔ (b < i ∨ b = i ∧ a < j + 1) := by omega
    simp only [this]
theorem fillSt_next (n : Nat) (F : Nat → Nat → Int) (i : Nat) : mk n (fillSt F i n) = mk n (fillSt F (i + 1) 0) := by
  refine mk_congr n _ _ fun a b ha hb => ?_
  unfold fillSt
  have : (b < i ∨ b = i ∧ a < n) ↔ (b < i + 1 ∨ b = i + 1 ∧ a < 0) := by omega
  simp only [this]
theorem fillSt_zero (n : Nat) (F : Nat → Nat → Int) : mk n (fillSt F 0 0) = zeroM n n := by
  apply List.ext_getElem
  · simp [mk, zeroM]
  · intro a h1 h2
    simp [mk, zeroM, fillSt]
    exact (List.map_const' ..).symm ▸ by simp
theorem fillSt_full (n : Nat) (F : Nat → Nat → Int) : mk n (fillSt F n 0) = mk n F := by
  refine mk_congr n _ _ fun a b ha hb => ?_
  unfold fillSt
  rw [if_pos (Or.inl hb)]

/-- what the model lays at row a, column b -/
def invS (d : Int) (n : Nat) (m : List (List Int)) (a b : Nat) : Int := if (b + a) % 2 = 1 then wrap64 (- wrap64 (d * det n (minorM n m b a))) else wrap64 (d * det n (minorM n m b a))
theorem invS_eq (d : Int) (hd : d = 1 ∨ d = -1) (n : Nat) (m : List (List Int)) (a b : Nat) : invS d n m a b = invAt d n m a b := by
  unfold invS invAt adjAt sgn
  rw [show b + a = a + b by omega]
  generalize det n (minorM n m b a) = y
  have h2 : (a + b) % 2 = 0 ∨ (a + b) % 2 = 1 := by omega
  rcases hd with rfl | rfl <;> rcases h2 with h | h <;> rw [h] <;> simp <;> unfold wrap64 <;> omega
end Go.Proofs.Ytoaopmafokoaoab
