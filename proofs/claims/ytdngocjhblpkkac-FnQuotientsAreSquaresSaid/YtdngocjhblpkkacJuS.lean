/- Ways up in the model: AscendPair. -/
import Derived.Test.YtdngocjhblpkkacJuR
namespace Go.Proofs.Ytdngocjhblpkkac
open Go.RowKit

def ascOk (x y k c s : Int) : Bool := juB x y k c && decide (0 ≤ s ∧ s ≤ 40)
theorem ascAns_no {x y k c s : Int} (h : ascOk x y k c s = false) : ascAns x y k c s = none := by
  refine if_neg fun hh => ?_
  unfold ascOk at h
  rw [hh.1, decide_eq_true ⟨hh.2.1, hh.2.2.1⟩] at h
  cases h
theorem ascAns_yes {x y k c s : Int} (hB : juB x y k c = true) (hs : 0 ≤ s ∧ s ≤ 40) :
    ascAns x y k c s = if s < (upRun k (s.toNat + 1) (x, y)).length then some ((upRun k (s.toNat + 1) (x, y)).map jpL) else none := by
  unfold ascAns
  simp only [hB, hs.1, hs.2, true_and]
end Go.Proofs.Ytdngocjhblpkkac
