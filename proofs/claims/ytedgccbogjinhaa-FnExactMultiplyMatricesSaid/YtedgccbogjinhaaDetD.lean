/- DeterminantOf of the model. -/
import Derived.Test.YtedgccbogjinhaaDetF
import Derived.Test.YtedgccbogjinhaaForm
namespace Go.Proofs.Ytedgccbogjinhaa
open Go.RowKit

set_option maxHeartbeats 1000000 in
theorem specDeterminantOf_any (v : Value) (m : List (List Int)) (w : World) (h : RowsC w v m) :
    Calls Try.prog 34 #[.agg #[v]] w fun e w' => NumAns w (detAns m) e w' := by
  obtain ⟨a, cap, rfl, hl, _⟩ := id h.1
  have hb0 : (w.alloc (.cells #[Value.slice a m.length cap] 27)).cell? ⟨w.heap.size, 0, none⟩ = some (.slice a m.length cap) := by simp [go_sem]
  have HR := hid (h.later (Later.alloc w (.cells #[Value.slice a m.length cap] 27)))
  have HL := hid (Later.alloc w (.cells #[Value.slice a m.length cap] 27))
  clear h
  go_enter Try.func34, Try.ntmps34
  go_wp2_with fail
  generalize w.alloc (.cells #[Value.slice a m.length cap] 27) = w1 at hb0 HR HL ⊢
  refine (foSmall_any _ m 1000 _ ⟨by omega, by omega⟩ HR.out.1).mono ?_
  rintro e w2 ⟨rfl, hL⟩
  have hb2 := hL.cell hb0
  have HR2 := hid (HR.out.later hL)
  have HL2 := hid (HL.out.trans hL)
  clear hL hb0
  cases hg : goodM 1000 m
  · have HG := hid (whenGood_no (r := det m.length m) hg); clear hg
    go_wp2_with fail
    go_ret2
    exact ⟨by unfold detAns; rw [HG.out]; rfl, HL2.out⟩
  · have hsq := hid (goodM_sq hg)
    have HG := hid (whenGood_yes (r := det m.length m) hg); clear hg
    go_wp2_with fail
    refine (foDeterminant_any m.length (by have := hsq.out.2.1; omega) m hsq.out.2.2 _ w2 HR2.out).mono ?_
    rintro e w3 ⟨rfl, hL⟩
    have HL3 := hid (HL2.out.trans hL)
    clear hL
    go_wp2_with fail
    go_ret2
    exact ⟨by unfold detAns; rw [HG.out]; rfl, HL3.out⟩
end Go.Proofs.Ytedgccbogjinhaa
