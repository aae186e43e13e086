/- Contracts of answerOf at its three types, and of TransposeOf. -/
import Derived.Test.YtofmmegpadojlaaTrans
namespace Go.Proofs.Ytofmmegpadojlaa
open Go.RowKit

/-- A grid and a bool. -/
def GridAns (w : World) (o : Option (List (List Int))) (e : Ending) (w' : World) : Prop :=
  ∃ v, e = .returned (.tuple #[v, .bool o.isSome]) ∧ OwnRows w.heap.size w'.heap.size w' v (o.getD []) ∧ Later w w'
def whenGood {α : Type} (M : Int) (m : List (List Int)) (r : α) : Option α := if goodM M m then some r else none
theorem whenGood_yes {α : Type} {M : Int} {m : List (List Int)} {r : α} (h : goodM M m = true) : whenGood M m r = some r := by unfold whenGood; rw [if_pos h]
theorem whenGood_no {α : Type} {M : Int} {m : List (List Int)} {r : α} (h : goodM M m = false) : whenGood M m r = none := by unfold whenGood; rw [if_neg (by rw [h]; simp)]

theorem off_sq (n : Nat) (R : List (List Int)) (h : Sq n R) (hn : n ≤ 4) : off R R.length ≤ 16 := by
  have h1 := off_bound R 4 R.length (fun i hi => by rw [h.2 i (by rw [← h.1]; exact hi)]; exact hn) (Nat.le_refl _)
  have h2 := h.1
  omega
theorem off_whenGood (M : Int) (m R : List (List Int)) (h : goodM M m = true → ∃ n, n ≤ 4 ∧ Sq n R) : off ((whenGood M m R).getD []) ((whenGood M m R).getD []).length ≤ 1000000000000 := by
  unfold whenGood
  split
  · rename_i hg
    obtain ⟨n, hn, hq⟩ := h hg
    have := off_sq n R hq hn
    show off R R.length ≤ _
    omega
  · simp [off]

def transAns (m : List (List Int)) : Option (List (List Int)) := whenGood 1000000 m (transM m.length m)

end Go.Proofs.Ytofmmegpadojlaa
