/- Contracts of the comparisons and of the marks: eqIntS, eqIntSS, eqMatrix, markIntS .., heldIntS .. -/
import Derived.Test.YthejafejmbpepaaCopy
namespace Go.Proofs.Ythejafejmbpepaa
open Go.RowKit

/-- The world after some draws. -/
def Drew (w w' : World) : Prop := ∃ n, w' = w.drewN n
theorem Drew.refl (w : World) : Drew w w := ⟨0, rfl⟩
theorem Drew.later {w w' : World} (h : Drew w w') : Later w w' := by
  obtain ⟨n, rfl⟩ := h; exact Later.drewN w n
theorem Drew.step {w w' : World} (h : Drew w w') (n : Nat) : Drew w (w'.drewN n) := by
  obtain ⟨m, rfl⟩ := h; exact ⟨m + n, by simp⟩
theorem Ints.drewN {w : World} {v : Value} {zs : List Int} (h : Ints w v zs) (n : Nat) : Ints (w.drewN n) v zs := h.later (Later.drewN w n)
theorem Rows2.drewN {w : World} {v : Value} {zs : List (List Int)} (h : Rows2 w v zs) (n : Nat) : Rows2 (w.drewN n) v zs := h.later (Later.drewN w n)

def eqL (xs ys : List Int) : Bool := decide (xs = ys)
def eqLL (xs ys : List (List Int)) : Bool := decide (xs = ys)

theorem list_eq_of {α : Type} {xs ys : List α} (hl : xs.length = ys.length) (h : ∀ i (hx : i < xs.length) (hy : i < ys.length), xs[i] = ys[i]) : xs = ys :=
  List.ext_getElem hl h

theorem eqLL_false {xs ys : List (List Int)} (k : Nat) (hn : eqL (xs.getD k []) (ys.getD k []) = false) : eqLL xs ys = false := by
  unfold eqLL; unfold eqL at hn
  rw [decide_eq_false_iff_not] at hn ⊢
  intro e; subst e; exact hn rfl

end Go.Proofs.Ythejafejmbpepaa
