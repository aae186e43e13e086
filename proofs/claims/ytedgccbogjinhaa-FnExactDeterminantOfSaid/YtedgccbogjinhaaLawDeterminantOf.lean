/- The walk of the law FnExactDeterminantOf, over whatever contracts the model's and the program's functions have. -/
import Derived.Test.YtedgccbogjinhaaDetS
import Derived.Deep.RegionHeld3
namespace Go.Proofs.Ytedgccbogjinhaa
open Go.RowKit

set_option maxHeartbeats 4000000 in
theorem lawDeterminantOf_gen (z0 : List (List Int)) (o : Option Int)
    (hS : ∀ (v0 : Value) (w : World), RowsC w v0 z0 → Calls Try.prog 34 #[.agg #[v0]] w fun e w' => NumAns w o e w')
    (hI : ∀ (v0 : Value) (w : World), RowsC w v0 z0 → Calls Try.prog 35 #[.agg #[v0]] w fun e w' => NumAns w o e w')
    (v0 : Value) (w : World) (h0 : Rows2 w v0 z0) :
    Calls Try.prog 8 #[.agg #[v0]] w fun e w' => e = .returned (.bool true) ∧ Later w w' := by
  have HS := hid hS
  have HI := hid hI
  clear hS hI
  obtain ⟨a00, cap00, rfl, hlen0, _⟩ := id h0
  have H0 := hid h0
  clear h0
  go_enter Try.func8, Try.ntmps8
  go_wp2_with fail
  have hx1 : (w.alloc (.cells #[Value.slice a00 z0.length cap00] 24)).cell? ⟨w.heap.size, 0, none⟩ = some (Value.slice a00 z0.length cap00) := by simp [go_sem]
  have L2 : Hid (Later w (w.alloc (.cells #[Value.slice a00 z0.length cap00] 24))) := hid (Later.alloc _ _)
  have S3 := hid (show w.heap.size + 1 ≤ (w.alloc (.cells #[Value.slice a00 z0.length cap00] 24)).heap.size by simp)
  generalize (w.alloc (.cells #[Value.slice a00 z0.length cap00] 24)) = w4 at hx1 L2 S3 ⊢
  refine (szMatrix_any _ z0 _ _ ⟨by omega, by omega⟩ (H0.out.later L2.out)).mono ?_
  rintro e w5 ⟨⟨r0, rfl, hr0⟩, hL⟩
  have hc6 := hL.cell hx1
  have L7 := hid (L2.out.trans hL)
  have S8 := hid hL.size
  clear hx1 L2 hL
  rcases hr0 with rfl | ⟨hr0a, hr0b, hr0n, hns0⟩
  · go_wp2_with fail
    go_ret
    exact ⟨rfl, L7.out⟩
  · have hnr0 : ¬ r0 < 0 := by omega
    have HN0 := hid (show z0.length ≤ 1048576 ∧ ∀ i, i < z0.length → (z0.getD i []).length ≤ 1048576 from ⟨by omega, fun i hi => by have := hns0 i hi; omega⟩)
    have hoff0 := off_args z0 HN0.out.2 HN0.out.1
    clear hns0
    go_wp2_with fail
    refine (toMatrix_any _ z0 _ HN0.out.1 HN0.out.2 (H0.out.later L7.out)).mono ?_
    rintro e w9 ⟨y9, rfl, hown, hL⟩
    obtain ⟨a9, cap9, rfl, _⟩ := hown.shape
    have O10 := hid hown
    clear hown
    have hc11 := hL.cell hc6
    have L12 := hid (L7.out.trans hL)
    have S13 := hid hL.size
    clear hc6 L7 hL
    go_wp2_with fail
    refine (HS.out _ _ (O10.out.rowsC)).mono ?_
    rintro e w14 ⟨rfl, hL⟩
    have hc15 := hL.cell hc11
    have O16 := hid (O10.out.later hL)
    have L17 := hid (L12.out.trans hL)
    have S18 := hid hL.size
    clear hc11 O10 L12 hL
    clear O16
    go_wp2_with fail
    refine (toMatrix_any _ z0 _ HN0.out.1 HN0.out.2 (H0.out.later L17.out)).mono ?_
    rintro e w19 ⟨y19, rfl, hown, hL⟩
    obtain ⟨a19, cap19, rfl, _⟩ := hown.shape
    have O20 := hid hown
    clear hown
    have hc21 := hL.cell hc15
    have L22 := hid (L17.out.trans hL)
    have S23 := hid hL.size
    clear hc15 L17 hL
    have hA := Later.alloc w19 (.cells #[Value.slice a19 z0.length cap19] 27)
    have hc26 := hA.cell hc21
    have O27 := hid (O20.out.later hA)
    have L28 := hid (L22.out.trans hA)
    have S29 := hid (And.intro hA.size (show w19.heap.size < (w19.alloc (.cells #[Value.slice a19 z0.length cap19] 27)).heap.size by simp))
    clear hA
    go_wp2_with fail
    have hx25 : (w19.alloc (.cells #[Value.slice a19 z0.length cap19] 27)).cell? ⟨w19.heap.size, 0, none⟩ = some (Value.slice a19 z0.length cap19) := by simp [go_sem]
    clear hc21 O20 L22
    generalize (w19.alloc (.cells #[Value.slice a19 z0.length cap19] 27)) = w24 at hx25 hc26 O27 L28 S29 ⊢
    refine (HI.out _ _ (O27.out.rowsC)).mono ?_
    rintro e w30 ⟨rfl, hL⟩
    have hc31 := hL.cell hc26
    have hc32 := hL.cell hx25
    have O33 := hid (O27.out.later hL)
    have L34 := hid (L28.out.trans hL)
    have S35 := hid hL.size
    clear hc26 hx25 O27 L28 hL
    have hne0 : ((o.getD 0) != (o.getD 0)) = false := by simp
    have hne1 : ((o.isSome) != (o.isSome)) = false := by simp
    go_wp2_with fail
    go_region_held3 (fun w' => w'.cell? ⟨w.heap.size, 0, none⟩ = some (Value.slice a00 z0.length cap00) ∧ w'.cell? ⟨w19.heap.size, 0, none⟩ = some (Value.slice a19 z0.length cap19)) (first | exact ⟨hc31, hc32⟩ | exact ⟨hra36, hrx36⟩ | exact ⟨hsa36, hsx36⟩) (first | (go_at_call 17; refine (toMatrix_any _ z0 _ HN0.out.1 HN0.out.2 (H0.out.later (L34.out.trans (Later.drew w30)))).mono ?_; rintro e wr36 ⟨yr36, rfl, hor36, hLr36⟩; have Rr36 := hid hor36.rows; have hra36 := hLr36.cell hc31; have hrx36 := hLr36.cell hc32; have Lr36 := hid ((Later.drew w30).trans hLr36); clear hLr36 hor36) | (go_at_call 19; refine (eqMatrix_any _ _ _ _ _ ((O33.out.rows).later Lr36.out) Rr36.out).mono ?_; rintro e ws36 ⟨rfl, hLs36⟩; have hsa36 := hLs36.cell hra36; have hsx36 := hLs36.cell hrx36; have Ls36 := hid (Lr36.out.trans hLs36); clear hLs36; rw [eqLL_self]))
    have hL := Ls36.out
    clear hsa36 hsx36 hra36 hrx36
    have hc37 := hL.cell hc31
    have hc38 := hL.cell hc32
    have O39 := hid (O33.out.later hL)
    have L40 := hid (L34.out.trans hL)
    have S41 := hid hL.size
    clear hc31 hc32 O33 L34 hL
    go_wp2_with fail
    go_ret
    exact ⟨rfl, L40.out⟩
end Go.Proofs.Ytedgccbogjinhaa
