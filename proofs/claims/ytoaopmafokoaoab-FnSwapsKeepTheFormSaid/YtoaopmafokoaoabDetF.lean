/- Contracts of determinants: the model's, all. -/
import Derived.Test.YtoaopmafokoaoabDetS
namespace Go.Proofs.Ytoaopmafokoaoab
open Go.RowKit

theorem sgn_succ' (j : Nat) : - sgn j = sgn (j + 1) := by unfold sgn; split <;> split <;> omega
theorem sgn_succ (j : Nat) : wrap64 (- sgn j) = sgn (j + 1) := by
  rw [sgn_succ']; exact IntWalk.wrap64_in _ (by unfold sgn; split <;> omega)

end Go.Proofs.Ytoaopmafokoaoab
