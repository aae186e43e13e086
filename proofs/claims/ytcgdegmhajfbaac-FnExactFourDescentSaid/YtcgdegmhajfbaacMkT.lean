/- Contracts of the program's SolvesMarkov. -/
import Derived.Test.YtcgdegmhajfbaacMkS
import Derived.BigQuiet
namespace Go.Proofs.Ytcgdegmhajfbaac
open Go.RowKit

theorem any_take_succ {α : Type} (p : α → Bool) (zs : List α) (k : Nat) (h : k < zs.length) (ha : (zs.take k).any p = false) (hp : p zs[k] = false) : (zs.take (k + 1)).any p = false := by
  rw [List.take_succ_eq_append_getElem h, List.any_append, ha]; simp [hp]
theorem any_true_at {α : Type} (p : α → Bool) (zs : List α) (k : Nat) (h : k < zs.length) (hp : p zs[k] = true) : zs.any p = true := by
  rw [List.any_eq_true]; exact ⟨zs[k], List.getElem_mem h, hp⟩

end Go.Proofs.Ytcgdegmhajfbaac
