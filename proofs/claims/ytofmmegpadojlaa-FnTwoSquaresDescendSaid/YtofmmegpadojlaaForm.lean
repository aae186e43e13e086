/- Contracts of foSame, foSmall, foForm (the model), isSmallForm (the program), IsSymmetric. -/
import Derived.Test.YtofmmegpadojlaaSqTr
import Derived.Deep.RegionHeld3
import Derived.Deep.RegionWith
namespace Go.Proofs.Ytofmmegpadojlaa
open Go.RowKit

theorem within_mono {M M' : Int} (h : M ≤ M') (z : Int) (hz : within (-M) M z = true) : within (-M') M' z = true := by
  simp only [within, Bool.and_eq_true, decide_eq_true_eq] at hz ⊢; omega
theorem goodM_mono {M M' : Int} (h : M ≤ M') {m : List (List Int)} (hg : goodM M m = true) : goodM M' m = true := by
  have hq := goodM_sq hg
  rw [goodM_eq _ _ ⟨hq.1, hq.2.1⟩, List.all_eq_true] at hg ⊢
  intro r hr
  have := hg r hr
  simp only [rowGood, Bool.and_eq_true, decide_eq_true_eq, List.all_eq_true] at this ⊢
  exact ⟨this.1, fun z hz => within_mono h z (this.2 z hz)⟩

def formW (m : List (List Int)) : Bool := goodM 1000 m && symW m
theorem symW_len (m : List (List Int)) : m.length = (transM m.length m).length := by simp [transM, mk]

def symAns (m : List (List Int)) : Option Bool := whenGood 1000000 m (symW m)

end Go.Proofs.Ytofmmegpadojlaa
