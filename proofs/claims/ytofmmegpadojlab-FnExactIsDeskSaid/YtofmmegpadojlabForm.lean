/- Contracts of foSame, foSmall, foForm (the model), isSmallForm (the program), IsSymmetric. -/
import Derived.Test.YtofmmegpadojlabSqTr
import Derived.Deep.RegionHeld3
import Derived.Deep.RegionWith
namespace Go.Proofs.Ytofmmegpadojlab
open Go.RowKit

theorem within_mono {M M' : Int} (h : M ≤ M') (z : Int) (hz : within (-M) M z = true) : within (-M') M' z = true := by
  simp only [within, Bool.and_eq_true, decide_eq_true_eq] at hz ⊢; omega
theorem goodM_mono {M M' : Int} (h : M ≤ M') {m : List (List Int)} (hg : goodM M m = true) : goodM M' m = true := by
  have hq := goodM_sq hg
  rw [goodM_eq _ _ ⟨hq.1, hq.2.1⟩, List.all_eq_true] at hg ⊢
  intro r hr
  have := hg r hr
  simp only [rowGood, Bool.and_eq_true, decide_eq_true_eq, List.all_eq_true] at this ⊢
  exact ⟨this.1, fun z hz => within_mono h z (this.2 z hz)⟩

def formW (m : List (List Int)) : Bool := goodM 1000 m && symW m
theorem symW_len (m : List (List Int)) : m.length = (transM m.length m).length := by simp [transM, mk]

set_option maxHeartbeats 1000000 in
theorem isSmallForm_any (v : Value) (m : List (List Int)) (w : World) (h : Rows2 w v m) :
    Calls Try.prog 95 #[.agg #[v]] w fun e w' => e = .returned (.bool (formW m)) ∧ Later w w' := by
  obtain ⟨a, cap, rfl, hl, _⟩ := id h
  have hb0 : (w.alloc (.cells #[Value.slice a m.length cap] 54)).cell? ⟨w.heap.size, 0, none⟩ = some (.slice a m.length cap) := by simp [go_sem]
  have HR := hid (h.later (Later.alloc w (.cells #[Value.slice a m.length cap] 54)))
  have HL := hid (Later.alloc w (.cells #[Value.slice a m.length cap] 54))
  clear h
  go_enter Try.func95, Try.ntmps95
  go_wp2_with fail
  generalize w.alloc (.cells #[Value.slice a m.length cap] 54) = w1 at hb0 HR HL ⊢
  refine (isMatrixUpTo_any _ m 1000 _ ⟨by omega, by omega⟩ HR.out).mono ?_
  rintro e w2 ⟨rfl, hL⟩
  have hb2 := hL.cell hb0
  have HR2 := hid (HR.out.later hL)
  have HL2 := hid (HL.out.trans hL)
  clear hL hb0
  cases hg : goodM 1000 m
  · have HG := hid (show formW m = false by unfold formW; rw [hg]; rfl)
    clear hg
    go_wp2_with fail
    go_ret
    exact ⟨ret_bool HG.out.symm, HL2.out⟩
  · have hsq := hid (goodM_sq hg)
    have hn4 : m.length ≤ 4 := (goodM_sq hg).2.1
    have HG := hid (show formW m = symW m by unfold formW; rw [hg]; rfl)
    clear hg
    go_wp2_with fail
    refine (isSymmetricGrid_any m hsq.out.2.2 (by omega) _ _ HR2.out).mono ?_
    rintro e w3 ⟨rfl, hL⟩
    have HL3 := hid (HL2.out.trans hL)
    clear hL
    go_wp2_with fail
    go_ret
    exact ⟨ret_bool HG.out.symm, HL3.out⟩

def symAns (m : List (List Int)) : Option Bool := whenGood 1000000 m (symW m)

end Go.Proofs.Ytofmmegpadojlab
