/- MultiplyMatrices of the model. -/
import Derived.Test.YtkpnckcfoigceaaMulA
namespace Go.Proofs.Ytkpnckcfoigceaa
open Go.RowKit

set_option maxHeartbeats 1000000 in
theorem foPair_any (u v : Value) (A C : List (List Int)) (w : World) (hA : Rows2 w u A) (hC : Rows2 w v C) :
    Calls Try.prog 26 #[.agg #[u], .agg #[v]] w fun e w' => e = .returned (.bool (decide (pairOK A C))) ∧ Later w w' := by
  obtain ⟨a, cap, rfl, hl, _⟩ := id hA
  obtain ⟨a', cap', rfl, hl', _⟩ := id hC
  have hL := (Later.alloc w (.cells #[Value.slice a A.length cap] 27)).trans (Later.alloc _ (.cells #[Value.slice a' C.length cap'] 27))
  have hc0 : ((w.alloc (.cells #[Value.slice a A.length cap] 27)).alloc (.cells #[Value.slice a' C.length cap'] 27)).cell? ⟨w.heap.size, 0, none⟩ = some (.slice a A.length cap) := by simp [go_sem]
  have hc1 : ((w.alloc (.cells #[Value.slice a A.length cap] 27)).alloc (.cells #[Value.slice a' C.length cap'] 27)).cell? ⟨w.heap.size + 1, 0, none⟩ = some (.slice a' C.length cap') := by simp [go_sem]
  have HA := hid (hA.later hL)
  have HC := hid (hC.later hL)
  have HL := hid hL
  clear hA hC hL
  cases hgA : goodM 1000000 A
  · have HM := hid (show decide (pairOK A C) = false by rw [decide_eq_false_iff_not]; unfold pairOK; rw [hgA]; simp)
    have HG := hid hgA
    clear hgA
    rw [HM.out]
    go_enter Try.func26, Try.ntmps26
    go_wp2_with fail
    generalize (w.alloc (.cells #[Value.slice a A.length cap] 27)).alloc (.cells #[Value.slice a' C.length cap'] 27) = w3 at HA HC HL hc0 hc1 ⊢
    refine (foGood_any _ A _ HA.out).mono ?_
    rintro e w4 ⟨rfl, hL⟩
    rw [HG.out]
    have HL4 := hid (HL.out.trans hL)
    clear hL hc0 hc1
    go_wp2_with fail
    go_ret
    exact ⟨rfl, HL4.out⟩
  · have HG := hid hgA
    clear hgA
    cases hgC : goodM 1000000 C
    · have HM := hid (show decide (pairOK A C) = false by rw [decide_eq_false_iff_not]; unfold pairOK; rw [hgC]; simp)
      have HGC := hid hgC
      clear hgC
      rw [HM.out]
      go_enter Try.func26, Try.ntmps26
      go_wp2_with fail
      generalize (w.alloc (.cells #[Value.slice a A.length cap] 27)).alloc (.cells #[Value.slice a' C.length cap'] 27) = w3 at HA HC HL hc0 hc1 ⊢
      refine (foGood_any _ A _ HA.out).mono ?_
      rintro e w4 ⟨rfl, hL⟩
      rw [HG.out]
      have hd1 := hL.cell hc1
      have HL4 := hid (HL.out.trans hL)
      have HC4 := hid (HC.out.later hL)
      clear hL hc0 hc1
      go_wp2_with fail
      refine (foGood_any _ C _ HC4.out).mono ?_
      rintro e w5 ⟨rfl, hL⟩
      rw [HGC.out]
      have HL5 := hid (HL4.out.trans hL)
      clear hL hd1
      go_wp2_with fail
      go_ret
      exact ⟨rfl, HL5.out⟩
    · have HGC := hid hgC
      clear hgC
      have HM := hid (show decide (pairOK A C) = ((A.length : Int) == (C.length : Int)) by
        by_cases h : A.length = C.length
        · rw [decide_eq_true (show pairOK A C from ⟨HG.out, HGC.out, h⟩)]; simp [h]
        · rw [decide_eq_false (fun hp : pairOK A C => h hp.2.2)]; symm; rw [beq_eq_false_iff_ne]; omega)
      rw [HM.out]
      go_enter Try.func26, Try.ntmps26
      go_wp2_with fail
      generalize (w.alloc (.cells #[Value.slice a A.length cap] 27)).alloc (.cells #[Value.slice a' C.length cap'] 27) = w3 at HA HC HL hc0 hc1 ⊢
      refine (foGood_any _ A _ HA.out).mono ?_
      rintro e w4 ⟨rfl, hL⟩
      rw [HG.out]
      have hd0 := hL.cell hc0
      have hd1 := hL.cell hc1
      have HL4 := hid (HL.out.trans hL)
      have HC4 := hid (HC.out.later hL)
      clear hL hc0 hc1
      go_wp2_with fail
      refine (foGood_any _ C _ HC4.out).mono ?_
      rintro e w5 ⟨rfl, hL⟩
      rw [HGC.out]
      have he0 := hL.cell hd0
      have he1 := hL.cell hd1
      have HL5 := hid (HL4.out.trans hL)
      clear hL hd0 hd1
      go_wp2_with fail
      go_ret
      exact ⟨by simp, HL5.out⟩

end Go.Proofs.Ytkpnckcfoigceaa
