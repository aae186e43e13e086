/- Circles: the image in a reflection (the program). -/
import Derived.Test.YtoaopmafokoaoaaCiM
import Derived.Deep.DeepCutAuto
namespace Go.Proofs.Ytoaopmafokoaoaa
open Go.RowKit

theorem mulT_hi {T p : Int} (hT : -6000000000000 ≤ T ∧ T ≤ 6000000000000) (hp : -1000000 ≤ p ∧ p ≤ 1000000) : Hi (-T * p) := by
  have := mulM_bd (p := -T) (q := p) (M := 6000000000000) (N := 1000000) ⟨by omega, by omega⟩ hp
  unfold Hi; omega
end Go.Proofs.Ytoaopmafokoaoaa
