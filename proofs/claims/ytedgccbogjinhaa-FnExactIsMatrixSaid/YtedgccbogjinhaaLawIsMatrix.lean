/- The law of IsMatrix: for every input it answers true. -/
import Derived.Test.YtedgccbogjinhaaGood
import Derived.Deep.RegionHeld3
namespace Go.Proofs.Ytedgccbogjinhaa
open Go.RowKit

set_option maxHeartbeats 1000000 in
theorem lawIsMatrix (v : Value) (zss : List (List Int)) (w : World) (h : Rows2 w v zss) (_hf : Fit2 zss) :
    Calls Try.prog 3 #[.agg #[v]] w fun e w' => e = .returned (.bool true) ∧ Later w w' := by
  obtain ⟨a, cap, rfl, hl, _⟩ := id h
  have hc0 : (w.alloc (.cells #[Value.slice a zss.length cap] 24)).cell? ⟨w.heap.size, 0, none⟩ = some (.slice a zss.length cap) := by simp [go_sem]
  have L0 := hid (Later.alloc w (.cells #[Value.slice a zss.length cap] 24))
  have H0 := hid h
  clear h
  go_enter Try.func3, Try.ntmps3
  go_wp2_with fail
  generalize w.alloc (.cells #[Value.slice a zss.length cap] 24) = w0 at hc0 L0 ⊢
  refine (szMatrix_any _ zss _ _ ⟨by omega, by omega⟩ (H0.out.later L0.out)).mono ?_
  rintro e w1 ⟨⟨r, rfl, hr⟩, hL⟩
  have hc1 := hL.cell hc0
  have L1 := hid (L0.out.trans hL)
  clear hL hc0
  rcases hr with rfl | ⟨hr0, hr1, hn, hns⟩
  · go_wp2_with fail
    go_ret
    exact ⟨rfl, L1.out⟩
  · have hnr : ¬ r < 0 := by omega
    have HNS := hid (fun i hi => by have := hns i hi; omega : ∀ i, i < zss.length → (zss.getD i []).length ≤ 1048576)
    clear hns
    go_wp2_with fail
    refine (toMatrix_any _ zss _ (by omega) HNS.out (H0.out.later L1.out)).mono ?_
    rintro e w2 ⟨v2, rfl, ho2, hL⟩
    have hc2 := hL.cell hc1
    have L2 := hid (L1.out.trans hL)
    have R2 := hid ho2.rows
    clear hL hc1 ho2
    go_wp2_with fail
    refine (specIsMatrix_any v2 zss _ R2.out).mono ?_
    rintro e w3 ⟨rfl, hL⟩
    have hc3 := hL.cell hc2
    have L3 := hid (L2.out.trans hL)
    clear hL hc2
    go_wp2_with fail
    refine (toMatrix_any _ zss _ (by omega) HNS.out (H0.out.later L3.out)).mono ?_
    rintro e w4 ⟨v4, rfl, ho4, hL⟩
    obtain ⟨a4, cap4, rfl, _⟩ := ho4.shape
    have hc4 := hL.cell hc3
    have L4 := hid (L3.out.trans hL)
    have R4 := hid ho4.rows
    clear hL hc3 ho4
    go_wp2_with fail
    have hc5 := (Later.alloc w4 (.cells #[Value.slice a4 zss.length cap4] 27)).cell hc4
    have hx5 : (w4.alloc (.cells #[Value.slice a4 zss.length cap4] 27)).cell? ⟨w4.heap.size, 0, none⟩ = some (.slice a4 zss.length cap4) := by simp [go_sem]
    have L5 := hid (L4.out.trans (Later.alloc w4 (.cells #[Value.slice a4 zss.length cap4] 27)))
    have R5 := hid (R4.out.later (Later.alloc w4 (.cells #[Value.slice a4 zss.length cap4] 27)))
    clear hc4
    generalize w4.alloc (.cells #[Value.slice a4 zss.length cap4] 27) = w5 at hc5 hx5 L5 R5 ⊢
    generalize w4.heap.size = b4 at hx5 ⊢
    refine (implIsMatrix_any _ zss _ R5.out).mono ?_
    rintro e w6 ⟨rfl, hL⟩
    have hc6 := hL.cell hc5
    have hx6 := hL.cell hx5
    have L6 := hid (L5.out.trans hL)
    have R6 := hid (R5.out.later hL)
    clear hL hc5 hx5
    have hbb : (goodM 1000000 zss != goodM 1000000 zss) = false := by simp
    go_wp2_with fail
    have HE := hid (show eqLL zss zss = true by simp [eqLL])
    go_region_held3 (fun w' => w'.cell? ⟨w.heap.size, 0, none⟩ = some (.slice a zss.length cap) ∧ w'.cell? ⟨b4, 0, none⟩ = some (.slice a4 zss.length cap4))
      (first | exact ⟨hc6, hx6⟩ | exact ⟨hc7, hx7⟩ | exact ⟨hc8, hx8⟩)
      (first | (go_at_call 17; refine (toMatrix_any _ zss _ (by omega) HNS.out (H0.out.later (L6.out.trans (Later.drew w6)))).mono ?_; rintro e w7 ⟨v7, rfl, ho7, hL⟩; have R7 := hid ho7.rows; have hc7 := hL.cell hc6; have hx7 := hL.cell hx6; have L7 := hid (hid ((Later.drew w6).trans hL)); clear hL ho7) | (go_at_call 19; refine (eqMatrix_any _ _ zss zss _ (R6.out.later L7.out.out) R7.out).mono ?_; rintro e w8 ⟨rfl, hL8⟩; have hc8 := hL8.cell hc7; have hx8 := hL8.cell hx7; have L8 := hid (L6.out.trans (L7.out.out.trans hL8)); clear hL8; rw [HE.out]))
    go_wp2_with fail
    go_ret
    exact ⟨rfl, L8.out⟩
end Go.Proofs.Ytedgccbogjinhaa
