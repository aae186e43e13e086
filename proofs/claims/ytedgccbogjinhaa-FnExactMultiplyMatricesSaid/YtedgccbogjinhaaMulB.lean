/- MultiplyMatrices of the model. -/
import Derived.Test.YtedgccbogjinhaaMulA
namespace Go.Proofs.Ytedgccbogjinhaa
open Go.RowKit

set_option maxHeartbeats 1000000 in
theorem foPair_any (u v : Value) (A C : List (List Int)) (w : World) (hA : Rows2 w u A) (hC : Rows2 w v C) :
    Calls Try.prog 60 #[.agg #[u], .agg #[v]] w fun e w' => e = .returned (.bool (decide (pairOK A C))) ∧ Later w w' := by
  obtain ⟨a, cap, rfl, hl, _⟩ := id hA
  obtain ⟨a', cap', rfl, hl', _⟩ := id hC
  have hL := (Later.alloc w (.cells #[Value.slice a A.length cap] 27)).trans (Later.alloc _ (.cells #[Value.slice a' C.length cap'] 27))
  have hc0 : ((w.alloc (.cells #[Value.slice a A.length cap] 27)).alloc (.cells #[Value.slice a' C.length cap'] 27)).cell? ⟨w.heap.size, 0, none⟩ = some (.slice a A.length cap) := by simp [go_sem]
  have hc1 : ((w.alloc (.cells #[Value.slice a A.length cap] 27)).alloc (.cells #[Value.slice a' C.length cap'] 27)).cell? ⟨w.heap.size + 1, 0, none⟩ = some (.slice a' C.length cap') := by simp [go_sem]
  have HA := hid (hA.later hL)
  have HC := hid (hC.later hL)
  have HL := hid hL
  clear hA hC hL
  cases hgA : goodM 1000000 A
  · have HM := hid (show decide (pairOK A C) = false by rw [decide_eq_false_iff_not]; unfold pairOK; rw [hgA]; simp)
    have HG := hid hgA
    clear hgA
    rw [HM.out]
    go_enter Try.func60, Try.ntmps60
    go_wp2_with fail
    generalize (w.alloc (.cells #[Value.slice a A.length cap] 27)).alloc (.cells #[Value.slice a' C.length cap'] 27) = w3 at HA HC HL hc0 hc1 ⊢
    refine (foGood_any _ A _ HA.out).mono ?_
    rintro e w4 ⟨rfl, hL⟩
    rw [HG.out]
    have HL4 := hid (HL.out.trans hL)
    clear hL hc0 hc1
    go_wp2_with fail
    go_ret
    exact ⟨rfl, HL4.out⟩
  · have HG := hid hgA
    clear hgA
    cases hgC : goodM 1000000 C
    · have HM := hid (show decide (pairOK A C) = false by rw [decide_eq_false_iff_not]; unfold pairOK; rw [hgC]; simp)
      have HGC := hid hgC
      clear hgC
      rw [HM.out]
      go_enter Try.func60, Try.ntmps60
      go_wp2_with fail
      generalize (w.alloc (.cells #[Value.slice a A.length cap] 27)).alloc (.cells #[Value.slice a' C.length cap'] 27) = w3 at HA HC HL hc0 hc1 ⊢
      refine (foGood_any _ A _ HA.out).mono ?_
      rintro e w4 ⟨rfl, hL⟩
      rw [HG.out]
      have hd1 := hL.cell hc1
      have HL4 := hid (HL.out.trans hL)
      have HC4 := hid (HC.out.later hL)
      clear hL hc0 hc1
      go_wp2_with fail
      refine (foGood_any _ C _ HC4.out).mono ?_
      rintro e w5 ⟨rfl, hL⟩
      rw [HGC.out]
      have HL5 := hid (HL4.out.trans hL)
      clear hL hd1
      go_wp2_with fail
      go_ret
      exact ⟨rfl, HL5.out⟩
    · have HGC := hid hgC
      clear hgC
      have HM := hid (show decide (pairOK A C) = ((A.length : Int) == (C.length : Int)) by
        by_cases h : A.length = C.length
        · rw [decide_eq_true (show pairOK A C from ⟨HG.out, HGC.out, h⟩)]; simp [h]
        · rw [decide_eq_false (fun hp : pairOK A C => h hp.2.2)]; symm; rw [beq_eq_false_iff_ne]; omega)
      rw [HM.out]
      go_enter Try.func60, Try.ntmps60
      go_wp2_with fail
      generalize (w.alloc (.cells #[Value.slice a A.length cap] 27)).alloc (.cells #[Value.slice a' C.length cap'] 27) = w3 at HA HC HL hc0 hc1 ⊢
      refine (foGood_any _ A _ HA.out).mono ?_
      rintro e w4 ⟨rfl, hL⟩
      rw [HG.out]
      have hd0 := hL.cell hc0
      have hd1 := hL.cell hc1
      have HL4 := hid (HL.out.trans hL)
      have HC4 := hid (HC.out.later hL)
      clear hL hc0 hc1
      go_wp2_with fail
      refine (foGood_any _ C _ HC4.out).mono ?_
      rintro e w5 ⟨rfl, hL⟩
      rw [HGC.out]
      have he0 := hL.cell hd0
      have he1 := hL.cell hd1
      have HL5 := hid (HL4.out.trans hL)
      clear hL hd0 hd1
      go_wp2_with fail
      go_ret
      exact ⟨by simp, HL5.out⟩

set_option maxHeartbeats 1000000 in
theorem specMultiplyMatrices_any (u v : Value) (A C : List (List Int)) (w : World) (hA : Rows2 w u A) (hC : Rows2 w v C) :
    Calls Try.prog 24 #[.agg #[u], .agg #[v]] w fun e w' => MatAns w (mulAns A C) e w' := by
  obtain ⟨a, cap, rfl, hl, _⟩ := id hA
  obtain ⟨a', cap', rfl, hl', _⟩ := id hC
  have hL := ((Later.alloc w (.cells #[Value.slice a A.length cap] 27)).trans (Later.alloc _ (.cells #[Value.slice a' C.length cap'] 27))).trans (Later.alloc _ (.cells #[Value.slice none 0 0] 27))
  have hb0 : Box (((w.alloc (.cells #[Value.slice a A.length cap] 27)).alloc (.cells #[Value.slice a' C.length cap'] 27)).alloc (.cells #[Value.slice none 0 0] 27)) w.heap.size (.slice a A.length cap) := ⟨by simp [go_sem], by simp [go_sem]⟩
  have hb1 : Box (((w.alloc (.cells #[Value.slice a A.length cap] 27)).alloc (.cells #[Value.slice a' C.length cap'] 27)).alloc (.cells #[Value.slice none 0 0] 27)) (w.heap.size + 1) (.slice a' C.length cap') := ⟨by simp [go_sem], by simp [go_sem]⟩
  have hb2 : Box (((w.alloc (.cells #[Value.slice a A.length cap] 27)).alloc (.cells #[Value.slice a' C.length cap'] 27)).alloc (.cells #[Value.slice none 0 0] 27)) (w.heap.size + 1 + 1) (.slice none 0 0) := ⟨by simp [go_sem], by simp [go_sem]⟩
  have hs : w.heap.size + 3 ≤ (((w.alloc (.cells #[Value.slice a A.length cap] 27)).alloc (.cells #[Value.slice a' C.length cap'] 27)).alloc (.cells #[Value.slice none 0 0] 27)).heap.size := by simp
  have HA := hid (hA.later hL)
  have HC := hid (hC.later hL)
  have HL := hid hL
  have hc0 := hb0.1
  have hc1 := hb1.1
  have HB0 := hid hb0
  have HB1 := hid hb1
  have HB2 := hid hb2
  clear hA hC hL hb0 hb1 hb2
  go_enter Try.func24, Try.ntmps24
  go_wp2_with fail
  generalize ((w.alloc (.cells #[Value.slice a A.length cap] 27)).alloc (.cells #[Value.slice a' C.length cap'] 27)).alloc (.cells #[Value.slice none 0 0] 27) = w3 at hs HA HC HL hc0 hc1 HB0 HB1 HB2 ⊢
  refine (foPair_any _ _ A C _ HA.out HC.out).mono ?_
  rintro e w4 ⟨rfl, hL⟩
  have hd0 := hL.cell hc0
  have hd1 := hL.cell hc1
  have hb2 := HB2.out.later hL
  have hc2 := hb2.1
  have hf2 := hb2.2
  have HB2' := hid hb2
  have HL4 := hid (HL.out.trans hL)
  have HA4 := hid (HA.out.later hL)
  have HC4 := hid (HC.out.later hL)
  clear hL hc0 hc1 hb2
  by_cases hp : pairOK A C
  · have HM := hid (show mulAns A C = ifGood (mulM A.length A C) by unfold mulAns; rw [if_pos hp])
    have HP := hid hp
    rw [show decide (pairOK A C) = true from decide_eq_true hp]
    have hA4 : A.length ≤ 4 := (goodM_sq hp.1).2.1
    clear hp hc2 hf2
    go_wp2_with fail
    refine (foTimes_any A.length A C (goodM_sq HP.out.1).2.2 (by rw [HP.out.2.2]; exact (goodM_sq HP.out.2.1).2.2) _ _ _ (by omega) HA4.out HC4.out).mono ?_
    rintro e w6 ⟨v6, rfl, ho, hL⟩
    have HO := hid ho
    have HL6 := hid hL
    obtain ⟨a6, cap6, hv6, _⟩ := ho.shape
    subst hv6
    clear ho hL hd0 hd1
    go_wp2_with fail
    refine (foIf_any _ (mulM A.length A C) _ HO.out.rows).mono ?_
    rintro e w7 ⟨rfl, hL⟩
    obtain ⟨hc2, hf2⟩ := HB2'.out.later (HL6.out.trans hL)
    have HL7 := hid (HL4.out.trans (HL6.out.trans hL))
    have hs5 := HL4.out.size
    have hs4 := HB2'.out.lt
    have HO7 := hid ((HO.out.later hL).wide (Nat.le_refl _) hL.size)
    clear hL
    cases hgi : goodM 1000000 (mulM A.length A C)
    · have HI := hid (show ifGood (mulM A.length A C) = none by unfold ifGood; rw [hgi]; rfl)
      clear hgi
      go_wp2_with fail
      refine bodyPost_ret (v := .tuple #[.agg #[.slice none 0 0], .bool false]) (by simp [results, Try.results24, go_sem, hc2]) rfl ⟨_, by rw [HM.out, HI.out]; rfl, by rw [HM.out, HI.out]; exact OwnRows.empty _ _ _, ?_⟩
      first | exact HL7.out | exact HL7.out.setCell (by simp; omega) _
    · have HI := hid (show ifGood (mulM A.length A C) = some (mulM A.length A C) by unfold ifGood; rw [hgi]; rfl)
      clear hgi
      go_wp2_with fail
      refine bodyPost_ret (v := .tuple #[.agg #[.slice a6 (mulM A.length A C).length cap6], .bool true]) (by simp [results, Try.results24, go_sem, hc2]) rfl ⟨_, by rw [HM.out, HI.out]; rfl, ?_, HL7.out.setCell (by simp; omega) _⟩
      rw [HM.out, HI.out]
      exact (HO7.out.setCell (a := ⟨w.heap.size + 1 + 1, 0, none⟩) (by simp; omega) _).wide hs5 (by simp [World.setCell])
  · have HM := hid (show mulAns A C = none by unfold mulAns; rw [if_neg hp])
    rw [show decide (pairOK A C) = false from decide_eq_false hp]
    clear hp
    go_wp2_with fail
    refine bodyPost_ret (v := .tuple #[.agg #[.slice none 0 0], .bool false]) (by simp [results, Try.results24, go_sem, hc2]) rfl ⟨_, by rw [HM.out]; rfl, by rw [HM.out]; exact OwnRows.empty _ _ _, ?_⟩
    first | exact HL4.out | exact HL4.out.setCell (by simp; omega) _
end Go.Proofs.Ytedgccbogjinhaa
