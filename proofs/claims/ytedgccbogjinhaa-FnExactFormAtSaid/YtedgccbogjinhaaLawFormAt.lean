/- The walk of the law FnExactFormAt, over whatever contracts the model's and the program's functions have. -/
import Derived.Test.YtedgccbogjinhaaAns
import Derived.Deep.RegionHeld3
namespace Go.Proofs.Ytedgccbogjinhaa
open Go.RowKit

set_option maxHeartbeats 4000000 in
theorem lawFormAt_gen (z0 : List (List Int)) (z1 : List Int) (o : Option Int)
    (hS : ∀ (v0 : Value) (v1 : Value) (w : World), Rows2 w v0 z0 → Ints w v1 z1 → Calls Try.prog 42 #[.agg #[v0], v1] w fun e w' => NumAns w o e w')
    (hI : ∀ (v0 : Value) (v1 : Value) (w : World), Rows2 w v0 z0 → Ints w v1 z1 → Calls Try.prog 43 #[.agg #[v0], v1] w fun e w' => NumAns w o e w')
    (v0 : Value) (v1 : Value) (w : World) (h0 : Rows2 w v0 z0) (h1 : Ints w v1 z1) :
    Calls Try.prog 12 #[.agg #[v0], v1] w fun e w' => e = .returned (.bool true) ∧ Later w w' := by
  have HS := hid hS
  have HI := hid hI
  clear hS hI
  obtain ⟨a00, cap00, rfl, hlen0, _⟩ := id h0
  have H0 := hid h0
  clear h0
  obtain ⟨a01, cap01, rfl, hlen1, _⟩ := id h1
  have H1 := hid h1
  clear h1
  by_cases hz1 : z1.length ≤ 1048576
  · skip
    have hq1 : ¬ (1048576 : Int) < (z1.length : Int) := by omega
    have HN1 := hid hz1
    go_enter Try.func12, Try.ntmps12
    go_wp2_with fail
    have hx1 : (w.alloc (.cells #[Value.slice a00 z0.length cap00] 24)).cell? ⟨w.heap.size, 0, none⟩ = some (Value.slice a00 z0.length cap00) := by simp [go_sem]
    have L2 : Hid (Later w (w.alloc (.cells #[Value.slice a00 z0.length cap00] 24))) := hid (Later.alloc _ _)
    have S3 := hid (show w.heap.size + 1 ≤ (w.alloc (.cells #[Value.slice a00 z0.length cap00] 24)).heap.size by simp)
    generalize (w.alloc (.cells #[Value.slice a00 z0.length cap00] 24)) = w4 at hx1 L2 S3 ⊢
    refine (szMatrix_any _ z0 _ _ ⟨by omega, by omega⟩ (H0.out.later L2.out)).mono ?_
    rintro e w5 ⟨⟨r0, rfl, hr0⟩, hL⟩
    have hc6 := hL.cell hx1
    have L7 := hid (L2.out.trans hL)
    have S8 := hid hL.size
    clear hx1 L2 hL
    rcases hr0 with rfl | ⟨hr0a, hr0b, hr0n, hns0⟩
    · go_wp2_with fail
      go_ret
      exact ⟨rfl, L7.out⟩
    · have hnr0 : ¬ r0 < 0 := by omega
      have HN0 := hid (show z0.length ≤ 1048576 ∧ ∀ i, i < z0.length → (z0.getD i []).length ≤ 1048576 from ⟨by omega, fun i hi => by have := hns0 i hi; omega⟩)
      have hoff0 := off_args z0 HN0.out.2 HN0.out.1
      clear hns0
      go_wp2_with fail
      refine (toMatrix_any _ z0 _ HN0.out.1 HN0.out.2 (H0.out.later L7.out)).mono ?_
      rintro e w9 ⟨y9, rfl, hown, hL⟩
      obtain ⟨a9, cap9, rfl, _⟩ := hown.shape
      have O10 := hid hown
      clear hown
      have hc11 := hL.cell hc6
      have L12 := hid (L7.out.trans hL)
      have S13 := hid hL.size
      clear hc6 L7 hL
      go_wp2_with fail
      refine (toIntS_any _ z1 _ HN1.out (H1.out.later L12.out)).mono ?_
      rintro e w14 ⟨y14, rfl, hown, hL⟩
      obtain ⟨a14, cap14, rfl, _⟩ := hown.shape
      have O15 := hid hown
      clear hown
      have hc16 := hL.cell hc11
      have O17 := hid (O10.out.later hL)
      have L18 := hid (L12.out.trans hL)
      have S19 := hid hL.size
      clear hc11 O10 L12 hL
      go_wp2_with fail
      refine (HS.out _ _ _ (O17.out.rows) (O15.out.ints)).mono ?_
      rintro e w20 ⟨rfl, hL⟩
      have hc21 := hL.cell hc16
      have O22 := hid (O17.out.later hL)
      have O23 := hid (O15.out.later hL)
      have L24 := hid (L18.out.trans hL)
      have S25 := hid hL.size
      clear hc16 O17 O15 L18 hL
      clear O22
      clear O23
      go_wp2_with fail
      refine (toMatrix_any _ z0 _ HN0.out.1 HN0.out.2 (H0.out.later L24.out)).mono ?_
      rintro e w26 ⟨y26, rfl, hown, hL⟩
      obtain ⟨a26, cap26, rfl, _⟩ := hown.shape
      have O27 := hid hown
      clear hown
      have hc28 := hL.cell hc21
      have L29 := hid (L24.out.trans hL)
      have S30 := hid hL.size
      clear hc21 L24 hL
      have hA := Later.alloc w26 (.cells #[Value.slice a26 z0.length cap26] 27)
      have hc33 := hA.cell hc28
      have O34 := hid (O27.out.later hA)
      have L35 := hid (L29.out.trans hA)
      have S36 := hid (And.intro hA.size (show w26.heap.size < (w26.alloc (.cells #[Value.slice a26 z0.length cap26] 27)).heap.size by simp))
      clear hA
      go_wp2_with fail
      have hx32 : (w26.alloc (.cells #[Value.slice a26 z0.length cap26] 27)).cell? ⟨w26.heap.size, 0, none⟩ = some (Value.slice a26 z0.length cap26) := by simp [go_sem]
      clear hc28 O27 L29
      generalize (w26.alloc (.cells #[Value.slice a26 z0.length cap26] 27)) = w31 at hx32 hc33 O34 L35 S36 ⊢
      refine (toIntS_any _ z1 _ HN1.out (H1.out.later L35.out)).mono ?_
      rintro e w37 ⟨y37, rfl, hown, hL⟩
      obtain ⟨a37, cap37, rfl, _⟩ := hown.shape
      have O38 := hid hown
      clear hown
      have hc39 := hL.cell hc33
      have hc40 := hL.cell hx32
      have O41 := hid (O34.out.later hL)
      have L42 := hid (L35.out.trans hL)
      have S43 := hid hL.size
      clear hc33 hx32 O34 L35 hL
      go_wp2_with fail
      refine (HI.out _ _ _ (O41.out.rows) (O38.out.ints)).mono ?_
      rintro e w44 ⟨rfl, hL⟩
      have hc45 := hL.cell hc39
      have hc46 := hL.cell hc40
      have O47 := hid (O41.out.later hL)
      have O48 := hid (O38.out.later hL)
      have L49 := hid (L42.out.trans hL)
      have S50 := hid hL.size
      clear hc39 hc40 O41 O38 L42 hL
      have hne0 : ((o.getD 0) != (o.getD 0)) = false := by simp
      have hne1 : ((o.isSome) != (o.isSome)) = false := by simp
      go_wp2_with fail
      go_region_held3 (fun w' => w'.cell? ⟨w.heap.size, 0, none⟩ = some (Value.slice a00 z0.length cap00) ∧ w'.cell? ⟨w26.heap.size, 0, none⟩ = some (Value.slice a26 z0.length cap26)) (first | exact ⟨hc45, hc46⟩ | exact ⟨hra51, hrx51⟩ | exact ⟨hsa51, hsx51⟩) (first | (go_at_call 17; refine (toMatrix_any _ z0 _ HN0.out.1 HN0.out.2 (H0.out.later (L49.out.trans (Later.drew w44)))).mono ?_; rintro e wr51 ⟨yr51, rfl, hor51, hLr51⟩; have Rr51 := hid hor51.rows; have hra51 := hLr51.cell hc45; have hrx51 := hLr51.cell hc46; have Lr51 := hid ((Later.drew w44).trans hLr51); clear hLr51 hor51) | (go_at_call 19; refine (eqMatrix_any _ _ _ _ _ ((O47.out.rows).later Lr51.out) Rr51.out).mono ?_; rintro e ws51 ⟨rfl, hLs51⟩; have hsa51 := hLs51.cell hra51; have hsx51 := hLs51.cell hrx51; have Ls51 := hid (Lr51.out.trans hLs51); clear hLs51; rw [eqLL_self]))
      have hL := Ls51.out
      clear hsa51 hsx51 hra51 hrx51
      have hc52 := hL.cell hc45
      have hc53 := hL.cell hc46
      have O54 := hid (O47.out.later hL)
      have O55 := hid (O48.out.later hL)
      have L56 := hid (L49.out.trans hL)
      have S57 := hid hL.size
      clear hc45 hc46 O47 O48 L49 hL
      go_wp2_with fail
      refine (toIntS_any _ z1 _ HN1.out (H1.out.later L56.out)).mono ?_
      rintro e w58 ⟨y58, rfl, hown, hL⟩
      obtain ⟨a58, cap58, rfl, _⟩ := hown.shape
      have O59 := hid hown
      clear hown
      have hc60 := hL.cell hc52
      have hc61 := hL.cell hc53
      have O62 := hid (O54.out.later hL)
      have O63 := hid (O55.out.later hL)
      have L64 := hid (L56.out.trans hL)
      have S65 := hid hL.size
      clear hc52 hc53 O54 O55 L56 hL
      go_wp2_with fail
      refine (eqIntS_any _ _ _ _ _ (O63.out.ints) (O59.out.ints)).mono ?_
      rintro e w66 ⟨rfl, hD⟩
      have hL := hD.later
      clear hD
      rw [eqL_self]
      have hc67 := hL.cell hc60
      have hc68 := hL.cell hc61
      have O69 := hid (O62.out.later hL)
      have O70 := hid (O63.out.later hL)
      have O71 := hid (O59.out.later hL)
      have L72 := hid (L64.out.trans hL)
      have S73 := hid hL.size
      clear hc60 hc61 O62 O63 O59 L64 hL
      clear O71
      go_wp2_with fail
      go_ret
      exact ⟨rfl, L72.out⟩
  · have hq1 : (1048576 : Int) < (z1.length : Int) := by omega
    go_enter Try.func12, Try.ntmps12
    go_wp2_with fail
    go_ret
    exact ⟨rfl, (Later.alloc _ _)⟩
end Go.Proofs.Ytedgccbogjinhaa
