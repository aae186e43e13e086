/- MultiplyMatrices, of the program and of the model. -/
import Derived.Test.YtoaopmafokoaoabMulS
namespace Go.Proofs.Ytoaopmafokoaoab
open Go.RowKit

def pairOK (A C : List (List Int)) : Prop := goodM 1000000 A = true ∧ goodM 1000000 C = true ∧ A.length = C.length
instance (A C : List (List Int)) : Decidable (pairOK A C) := by unfold pairOK; infer_instance
def mulAns (A C : List (List Int)) : Option (List (List Int)) := if pairOK A C then ifGood (mulM A.length A C) else none

set_option maxHeartbeats 1000000 in
theorem implMultiplyMatrices_any (u v : Value) (A C : List (List Int)) (w : World) (hA : Rows2 w u A) (hC : Rows2 w v C) :
    Calls Try.prog 34 #[.agg #[u], .agg #[v]] w fun e w' => MatAns w (mulAns A C) e w' := by
  obtain ⟨a, cap, rfl, hl, _⟩ := id hA
  obtain ⟨a', cap', rfl, hl', _⟩ := id hC
  have hL := ((Later.alloc w (.cells #[Value.slice a A.length cap] 44)).trans (Later.alloc _ (.cells #[Value.slice a' C.length cap'] 44))).trans (Later.alloc _ (.cells #[Value.slice none 0 0] 44))
  have hb0 : Box (((w.alloc (.cells #[Value.slice a A.length cap] 44)).alloc (.cells #[Value.slice a' C.length cap'] 44)).alloc (.cells #[Value.slice none 0 0] 44)) w.heap.size (.slice a A.length cap) := ⟨by simp [go_sem], by simp [go_sem]⟩
  have hb1 : Box (((w.alloc (.cells #[Value.slice a A.length cap] 44)).alloc (.cells #[Value.slice a' C.length cap'] 44)).alloc (.cells #[Value.slice none 0 0] 44)) (w.heap.size + 1) (.slice a' C.length cap') := ⟨by simp [go_sem], by simp [go_sem]⟩
  have hb2 : Box (((w.alloc (.cells #[Value.slice a A.length cap] 44)).alloc (.cells #[Value.slice a' C.length cap'] 44)).alloc (.cells #[Value.slice none 0 0] 44)) (w.heap.size + 1 + 1) (.slice none 0 0) := ⟨by simp [go_sem], by simp [go_sem]⟩
  have hs : w.heap.size + 3 ≤ (((w.alloc (.cells #[Value.slice a A.length cap] 44)).alloc (.cells #[Value.slice a' C.length cap'] 44)).alloc (.cells #[Value.slice none 0 0] 44)).heap.size := by simp
  have HA := hid (hA.later hL)
  have HC := hid (hC.later hL)
  have HL := hid hL
  have hc0 := hb0.1
  have hc1 := hb1.1
  have HB0 := hid hb0
  have HB1 := hid hb1
  have HB2 := hid hb2
  clear hA hC hL hb0 hb1 hb2
  cases hgA : goodM 1000000 A
  · have HM := hid (show mulAns A C = none by unfold mulAns; rw [if_neg (by unfold pairOK; rw [hgA]; simp)])
    have HG := hid hgA
    clear hgA
    go_enter Try.func34, Try.ntmps34
    go_wp2_with fail
    generalize ((w.alloc (.cells #[Value.slice a A.length cap] 44)).alloc (.cells #[Value.slice a' C.length cap'] 44)).alloc (.cells #[Value.slice none 0 0] 44) = w3 at hs HA HC HL hc0 hc1 HB0 HB1 HB2 ⊢
    refine (implIsMatrix_any _ A _ HA.out).mono ?_
    rintro e w4 ⟨rfl, hL⟩
    rw [HG.out]
    have hb2 := HB2.out.later hL
    obtain ⟨hc2, hf2⟩ := id hb2
    have HL4 := hid (HL.out.trans hL)
    clear hL hc0 hc1 hb2
    go_wp2_with fail
    refine bodyPost_ret (v := .tuple #[.agg #[.slice none 0 0], .bool false]) (by simp [results, Try.results34, go_sem, hc2]) rfl ⟨_, by rw [HM.out]; rfl, by rw [HM.out]; exact OwnRows.empty _ _ _, ?_⟩
    first | exact HL4.out | exact HL4.out.setCell (by simp; omega) _
  · have HG := hid hgA
    have HSA := hid (goodM_sq hgA)
    have hA4 : A.length ≤ 4 := (goodM_sq hgA).2.1
    clear hgA
    go_enter Try.func34, Try.ntmps34
    go_wp2_with fail
    generalize ((w.alloc (.cells #[Value.slice a A.length cap] 44)).alloc (.cells #[Value.slice a' C.length cap'] 44)).alloc (.cells #[Value.slice none 0 0] 44) = w3 at hs HA HC HL hc0 hc1 HB0 HB1 HB2 ⊢
    refine (implIsMatrix_any _ A _ HA.out).mono ?_
    rintro e w4 ⟨rfl, hL⟩
    rw [HG.out]
    have hb2 := HB2.out.later hL
    obtain ⟨hc2, hf2⟩ := id hb2
    have hd0 := hL.cell hc0
    have hd1 := hL.cell hc1
    have HB2' := hid hb2
    have HL4 := hid (HL.out.trans hL)
    have HA4 := hid (HA.out.later hL)
    have HC4 := hid (HC.out.later hL)
    clear hL hc0 hc1 hb2 hc2 hf2
    go_wp2_with fail
    refine (implIsMatrix_any _ C _ HC4.out).mono ?_
    rintro e w5 ⟨rfl, hL⟩
    have hc0 := hL.cell hd0
    have hc1 := hL.cell hd1
    have hb2 := HB2'.out.later hL
    have hc2 := hb2.1
    have hf2 := hb2.2
    have HB2'' := hid hb2
    have HL5 := hid (HL4.out.trans hL)
    have HA5 := hid (HA4.out.later hL)
    have HC5 := hid (HC4.out.later hL)
    clear hL hd0 hd1 hb2
    cases hgC : goodM 1000000 C
    · have HM := hid (show mulAns A C = none by unfold mulAns; rw [if_neg (by unfold pairOK; rw [hgC]; simp)])
      clear hgC
      go_wp2_with fail
      refine bodyPost_ret (v := .tuple #[.agg #[.slice none 0 0], .bool false]) (by simp [results, Try.results34, go_sem, hc2]) rfl ⟨_, by rw [HM.out]; rfl, by rw [HM.out]; exact OwnRows.empty _ _ _, ?_⟩
      first | exact HL5.out | exact HL5.out.setCell (by simp; omega) _
    · by_cases hlen : A.length = C.length
      · have HM := hid (show mulAns A C = ifGood (mulM A.length A C) by unfold mulAns; rw [if_pos ⟨HG.out, hgC, hlen⟩])
        have HSC := hid (goodM_sq hgC)
        have HLEN := hid hlen
        have hle : ((A.length : Int) != (C.length : Int)) = false := by simp [hlen]
        clear hgC hlen hc2 hf2
        go_wp2_with fail
        refine (times_any A.length A C HSA.out.2.2 (by rw [HLEN.out]; exact HSC.out.2.2) _ _ _ (by omega) HA5.out HC5.out).mono ?_
        rintro e w6 ⟨v6, rfl, ho, hL⟩
        have HO := hid ho
        have HL6 := hid hL
        clear ho hL hc0 hc1
        go_wp2_with fail
        refine (matrixOf_ans w5 _ (mulM A.length A C) _ HL6.out HO.out).mono ?_
        rintro e w7 ⟨v7, rfl, ho7, hL7⟩
        obtain ⟨hc2, hf2⟩ := HB2''.out.later hL7
        have HL7 := hid (HL5.out.trans hL7)
        have hs5 := HL5.out.size
        obtain ⟨a7, cap7, rfl, _⟩ := ho7.shape
        have HO7 := hid ho7
        clear hL7 ho7
        go_wp2_with fail
        refine bodyPost_ret (v := .tuple #[.agg #[.slice a7 ((ifGood (mulM A.length A C)).getD []).length cap7], .bool (ifGood (mulM A.length A C)).isSome]) (by simp [results, Try.results34, go_sem, hc2]) rfl ⟨_, by rw [HM.out], ?_, ?_⟩
        · rw [HM.out]
          have := HB2''.out.lt
          exact (HO7.out.setCell (a := ⟨w.heap.size + 1 + 1, 0, none⟩) (by simp; omega) _).wide hs5 (by simp [World.setCell])
        · exact HL7.out.setCell (by simp; omega) _
      · have HM := hid (show mulAns A C = none by unfold mulAns; rw [if_neg (fun h => hlen h.2.2)])
        have hle : ((A.length : Int) != (C.length : Int)) = true := by simp; omega
        clear hgC
        go_wp2_with fail
        refine bodyPost_ret (v := .tuple #[.agg #[.slice none 0 0], .bool false]) (by simp [results, Try.results34, go_sem, hc2]) rfl ⟨_, by rw [HM.out]; rfl, by rw [HM.out]; exact OwnRows.empty _ _ _, ?_⟩
        first | exact HL5.out | exact HL5.out.setCell (by simp; omega) _
end Go.Proofs.Ytoaopmafokoaoab
