/- The walk of the law FnExactInverseOf, over whatever contracts the model's and the program's functions have. -/
import Derived.Test.YtedgccbogjinhaaDetS
import Derived.Deep.RegionHeld3
namespace Go.Proofs.Ytedgccbogjinhaa
open Go.RowKit

set_option maxHeartbeats 4000000 in
theorem lawInverseOf_gen (z0 : List (List Int)) (o : Option (List (List Int))) (hob : off (o.getD []) (o.getD []).length ≤ 1000000000000)
    (hS : ∀ (v0 : Value) (w : World), RowsC w v0 z0 → Calls Try.prog 36 #[.agg #[v0]] w fun e w' => MatAns w o e w')
    (hI : ∀ (v0 : Value) (w : World), RowsC w v0 z0 → Calls Try.prog 37 #[.agg #[v0]] w fun e w' => MatAns w o e w')
    (v0 : Value) (w : World) (h0 : Rows2 w v0 z0) :
    Calls Try.prog 9 #[.agg #[v0]] w fun e w' => e = .returned (.bool true) ∧ Later w w' := by
  have HS := hid hS
  have HI := hid hI
  clear hS hI
  obtain ⟨a00, cap00, rfl, hlen0, _⟩ := id h0
  have H0 := hid h0
  clear h0
  go_enter Try.func9, Try.ntmps9
  go_wp2_with fail
  have hx1 : (w.alloc (.cells #[Value.slice a00 z0.length cap00] 24)).cell? ⟨w.heap.size, 0, none⟩ = some (Value.slice a00 z0.length cap00) := by simp [go_sem]
  have L2 : Hid (Later w (w.alloc (.cells #[Value.slice a00 z0.length cap00] 24))) := hid (Later.alloc _ _)
  have S3 := hid (show w.heap.size + 1 ≤ (w.alloc (.cells #[Value.slice a00 z0.length cap00] 24)).heap.size by simp)
  generalize (w.alloc (.cells #[Value.slice a00 z0.length cap00] 24)) = w4 at hx1 L2 S3 ⊢
  refine (szMatrix_any _ z0 _ _ ⟨by omega, by omega⟩ (H0.out.later L2.out)).mono ?_
  rintro e w5 ⟨⟨r0, rfl, hr0⟩, hL⟩
  have hc6 := hL.cell hx1
  have L7 := hid (L2.out.trans hL)
  have S8 := hid hL.size
  clear hx1 L2 hL
  rcases hr0 with rfl | ⟨hr0a, hr0b, hr0n, hns0⟩
  · go_wp2_with fail
    go_ret
    exact ⟨rfl, L7.out⟩
  · have hnr0 : ¬ r0 < 0 := by omega
    have HN0 := hid (show z0.length ≤ 1048576 ∧ ∀ i, i < z0.length → (z0.getD i []).length ≤ 1048576 from ⟨by omega, fun i hi => by have := hns0 i hi; omega⟩)
    have hoff0 := off_args z0 HN0.out.2 HN0.out.1
    clear hns0
    go_wp2_with fail
    refine (toMatrix_any _ z0 _ HN0.out.1 HN0.out.2 (H0.out.later L7.out)).mono ?_
    rintro e w9 ⟨y9, rfl, hown, hL⟩
    obtain ⟨a9, cap9, rfl, _⟩ := hown.shape
    have O10 := hid hown
    clear hown
    have hc11 := hL.cell hc6
    have L12 := hid (L7.out.trans hL)
    have S13 := hid hL.size
    clear hc6 L7 hL
    go_wp2_with fail
    refine (HS.out _ _ (O10.out.rowsC)).mono ?_
    rintro e w14 ⟨y14, rfl, hown, hL⟩
    obtain ⟨a14, cap14, rfl, _⟩ := hown.shape
    have O15 := hid hown
    clear hown
    have hc16 := hL.cell hc11
    have O17 := hid (O10.out.later hL)
    have L18 := hid (L12.out.trans hL)
    have S19 := hid hL.size
    clear hc11 O10 L12 hL
    clear O17
    have hA := Later.alloc w14 (.cells #[Value.slice a14 (o.getD []).length cap14] 27)
    have hc22 := hA.cell hc16
    have O23 := hid (O15.out.later hA)
    have L24 := hid (L18.out.trans hA)
    have S25 := hid (And.intro hA.size (show w14.heap.size < (w14.alloc (.cells #[Value.slice a14 (o.getD []).length cap14] 27)).heap.size by simp))
    clear hA
    go_wp2_with fail
    have hx21 : (w14.alloc (.cells #[Value.slice a14 (o.getD []).length cap14] 27)).cell? ⟨w14.heap.size, 0, none⟩ = some (Value.slice a14 (o.getD []).length cap14) := by simp [go_sem]
    clear hc16 O15 L18
    generalize (w14.alloc (.cells #[Value.slice a14 (o.getD []).length cap14] 27)) = w20 at hx21 hc22 O23 L24 S25 ⊢
    refine (toMatrix_any _ z0 _ HN0.out.1 HN0.out.2 (H0.out.later L24.out)).mono ?_
    rintro e w26 ⟨y26, rfl, hown, hL⟩
    obtain ⟨a26, cap26, rfl, _⟩ := hown.shape
    have O27 := hid hown
    clear hown
    have hc28 := hL.cell hc22
    have hc29 := hL.cell hx21
    have O30 := hid (O23.out.later hL)
    have L31 := hid (L24.out.trans hL)
    have S32 := hid hL.size
    clear hc22 hx21 O23 L24 hL
    have hA := Later.alloc w26 (.cells #[Value.slice a26 z0.length cap26] 27)
    have hc35 := hA.cell hc28
    have hc36 := hA.cell hc29
    have O37 := hid (O30.out.later hA)
    have O38 := hid (O27.out.later hA)
    have L39 := hid (L31.out.trans hA)
    have S40 := hid (And.intro hA.size (show w26.heap.size < (w26.alloc (.cells #[Value.slice a26 z0.length cap26] 27)).heap.size by simp))
    clear hA
    go_wp2_with fail
    have hx34 : (w26.alloc (.cells #[Value.slice a26 z0.length cap26] 27)).cell? ⟨w26.heap.size, 0, none⟩ = some (Value.slice a26 z0.length cap26) := by simp [go_sem]
    clear hc28 hc29 O30 O27 L31
    generalize (w26.alloc (.cells #[Value.slice a26 z0.length cap26] 27)) = w33 at hx34 hc35 hc36 O37 O38 L39 S40 ⊢
    refine (HI.out _ _ (O38.out.rowsC)).mono ?_
    rintro e w41 ⟨y41, rfl, hown, hL⟩
    obtain ⟨a41, cap41, rfl, _⟩ := hown.shape
    have O42 := hid hown
    clear hown
    have hc43 := hL.cell hc35
    have hc44 := hL.cell hc36
    have hc45 := hL.cell hx34
    have O46 := hid (O37.out.later hL)
    have O47 := hid (O38.out.later hL)
    have L48 := hid (L39.out.trans hL)
    have S49 := hid hL.size
    clear hc35 hc36 hx34 O37 O38 L39 hL
    have hne0 : ((o.isSome) != (o.isSome)) = false := by simp
    have hA := Later.alloc w41 (.cells #[Value.slice a41 (o.getD []).length cap41] 27)
    have hc52 := hA.cell hc43
    have hc53 := hA.cell hc44
    have hc54 := hA.cell hc45
    have O55 := hid (O46.out.later hA)
    have O56 := hid (O47.out.later hA)
    have O57 := hid (O42.out.later hA)
    have L58 := hid (L48.out.trans hA)
    have S59 := hid (And.intro hA.size (show w41.heap.size < (w41.alloc (.cells #[Value.slice a41 (o.getD []).length cap41] 27)).heap.size by simp))
    clear hA
    go_wp2_with fail
    have hx51 : (w41.alloc (.cells #[Value.slice a41 (o.getD []).length cap41] 27)).cell? ⟨w41.heap.size, 0, none⟩ = some (Value.slice a41 (o.getD []).length cap41) := by simp [go_sem]
    clear hc43 hc44 hc45 O46 O47 O42 L48
    generalize (w41.alloc (.cells #[Value.slice a41 (o.getD []).length cap41] 27)) = w50 at hx51 hc52 hc53 hc54 O55 O56 O57 L58 S59 ⊢
    refine (eqMatrix_any _ _ _ _ _ (O57.out.rows) (O55.out.rows)).mono ?_
    rintro e w60 ⟨rfl, hL⟩
    rw [eqLL_self]
    have hc61 := hL.cell hc52
    have hc62 := hL.cell hc53
    have hc63 := hL.cell hc54
    have hc64 := hL.cell hx51
    have O65 := hid (O55.out.later hL)
    have O66 := hid (O56.out.later hL)
    have O67 := hid (O57.out.later hL)
    have L68 := hid (L58.out.trans hL)
    have S69 := hid hL.size
    clear hc52 hc53 hc54 hx51 O55 O56 O57 L58 hL
    go_wp2_with fail
    go_region_held3 (fun w' => w'.cell? ⟨w.heap.size, 0, none⟩ = some (Value.slice a00 z0.length cap00) ∧ w'.cell? ⟨w26.heap.size, 0, none⟩ = some (Value.slice a26 z0.length cap26)) (first | exact ⟨hc61, hc63⟩ | exact ⟨hra70, hrx70⟩ | exact ⟨hsa70, hsx70⟩) (first | (go_at_call 17; refine (toMatrix_any _ z0 _ HN0.out.1 HN0.out.2 (H0.out.later (L68.out.trans (Later.drew w60)))).mono ?_; rintro e wr70 ⟨yr70, rfl, hor70, hLr70⟩; have Rr70 := hid hor70.rows; have hra70 := hLr70.cell hc61; have hrx70 := hLr70.cell hc63; have Lr70 := hid ((Later.drew w60).trans hLr70); clear hLr70 hor70) | (go_at_call 19; refine (eqMatrix_any _ _ _ _ _ ((O66.out.rows).later Lr70.out) Rr70.out).mono ?_; rintro e ws70 ⟨rfl, hLs70⟩; have hsa70 := hLs70.cell hra70; have hsx70 := hLs70.cell hrx70; have Ls70 := hid (Lr70.out.trans hLs70); clear hLs70; rw [eqLL_self]))
    have hL := Ls70.out
    clear hsa70 hsx70 hra70 hrx70
    have hc71 := hL.cell hc61
    have hc72 := hL.cell hc62
    have hc73 := hL.cell hc63
    have hc74 := hL.cell hc64
    have O75 := hid (O65.out.later hL)
    have O76 := hid (O66.out.later hL)
    have O77 := hid (O67.out.later hL)
    have L78 := hid (L68.out.trans hL)
    have S79 := hid hL.size
    clear hc61 hc62 hc63 hc64 O65 O66 O67 L68 hL
    go_wp2_with fail
    refine (markMatrix_any w20.heap.size (w26.heap.size) _ _ _ _ ⟨by omega, by omega⟩ O76.out).mono ?_
    rintro e w80 ⟨wm80, hL, rfl, hown, hW⟩
    have hc81 := cell_keep (hL.cell hc71) (hW.block _ (show ¬ (w20.heap.size ≤ w.heap.size ∧ w.heap.size < w26.heap.size) by have := S3.out; have := S8.out; have := S13.out; have := S19.out; have := S25.out; have := S32.out; have := S40.out; have := S49.out; have := S59.out; have := S69.out; have := S79.out; omega))
    clear hc71
    have hc82 := cell_keep (hL.cell hc72) (hW.block _ (show ¬ (w20.heap.size ≤ w14.heap.size ∧ w14.heap.size < w26.heap.size) by have := S3.out; have := S8.out; have := S13.out; have := S19.out; have := S25.out; have := S32.out; have := S40.out; have := S49.out; have := S59.out; have := S69.out; have := S79.out; omega))
    clear hc72
    have hc83 := cell_keep (hL.cell hc73) (hW.block _ (show ¬ (w20.heap.size ≤ w26.heap.size ∧ w26.heap.size < w26.heap.size) by have := S3.out; have := S8.out; have := S13.out; have := S19.out; have := S25.out; have := S32.out; have := S40.out; have := S49.out; have := S59.out; have := S69.out; have := S79.out; omega))
    clear hc73
    have hc84 := cell_keep (hL.cell hc74) (hW.block _ (show ¬ (w20.heap.size ≤ w41.heap.size ∧ w41.heap.size < w26.heap.size) by have := S3.out; have := S8.out; have := S13.out; have := S19.out; have := S25.out; have := S32.out; have := S40.out; have := S49.out; have := S59.out; have := S69.out; have := S79.out; omega))
    clear hc74
    have O85 := hid ((O75.out.later hL).keep fun b h1 h2 => hW.block b (by have := S3.out; have := S8.out; have := S13.out; have := S19.out; have := S25.out; have := S32.out; have := S40.out; have := S49.out; have := S59.out; have := S69.out; have := S79.out; omega))
    clear O75
    have O86 := hid ((O77.out.later hL).keep fun b h1 h2 => hW.block b (by have := S3.out; have := S8.out; have := S13.out; have := S19.out; have := S25.out; have := S32.out; have := S40.out; have := S49.out; have := S59.out; have := S69.out; have := S79.out; omega))
    clear O77
    have O87 := hid hown
    clear hown O76
    have L88 := hid (show Later w w80 from Wrote.below (L78.out.trans hL) hW (fun b hb => by have := S3.out; have := S8.out; have := S13.out; have := S19.out; have := S25.out; have := S32.out; have := S40.out; have := S49.out; have := S59.out; have := S69.out; have := S79.out; omega))
    clear L78
    have S89 := hid (show ws70.heap.size ≤ w80.heap.size by have := hL.size; have := hW.size; omega)
    clear hL hW
    have hkn : ¬ ((1 : Int) + (off z0 z0.length : Int)) < 0 := by omega
    go_wp2_with fail
    refine (eqMatrix_any _ _ _ _ _ (O86.out.rows) (O85.out.rows)).mono ?_
    rintro e w90 ⟨rfl, hL⟩
    rw [eqLL_self]
    have hc91 := hL.cell hc81
    have hc92 := hL.cell hc82
    have hc93 := hL.cell hc83
    have hc94 := hL.cell hc84
    have O95 := hid (O85.out.later hL)
    have O96 := hid (O87.out.later hL)
    have O97 := hid (O86.out.later hL)
    have L98 := hid (L88.out.trans hL)
    have S99 := hid hL.size
    clear hc81 hc82 hc83 hc84 O85 O87 O86 L88 hL
    go_wp2_with fail
    have hmm : (((1 : Int) + (off (o.getD []) (o.getD []).length : Int)) != ((1 : Int) + (off (o.getD []) (o.getD []).length : Int))) = false := by simp
    have hmn : ¬ (1 : Int) + (off (o.getD []) (o.getD []).length : Int) < 0 := by omega
    refine (markMatrix_any w33.heap.size (w41.heap.size) _ _ _ _ ⟨by omega, by omega⟩ O97.out).mono ?_
    rintro e w100 ⟨wm100, hL, rfl, hown, hW⟩
    have hc101 := cell_keep (hL.cell hc91) (hW.block _ (show ¬ (w33.heap.size ≤ w.heap.size ∧ w.heap.size < w41.heap.size) by have := S3.out; have := S8.out; have := S13.out; have := S19.out; have := S25.out; have := S32.out; have := S40.out; have := S49.out; have := S59.out; have := S69.out; have := S79.out; have := S89.out; have := S99.out; omega))
    clear hc91
    have hc102 := cell_keep (hL.cell hc92) (hW.block _ (show ¬ (w33.heap.size ≤ w14.heap.size ∧ w14.heap.size < w41.heap.size) by have := S3.out; have := S8.out; have := S13.out; have := S19.out; have := S25.out; have := S32.out; have := S40.out; have := S49.out; have := S59.out; have := S69.out; have := S79.out; have := S89.out; have := S99.out; omega))
    clear hc92
    have hc103 := cell_keep (hL.cell hc93) (hW.block _ (show ¬ (w33.heap.size ≤ w26.heap.size ∧ w26.heap.size < w41.heap.size) by have := S3.out; have := S8.out; have := S13.out; have := S19.out; have := S25.out; have := S32.out; have := S40.out; have := S49.out; have := S59.out; have := S69.out; have := S79.out; have := S89.out; have := S99.out; omega))
    clear hc93
    have hc104 := cell_keep (hL.cell hc94) (hW.block _ (show ¬ (w33.heap.size ≤ w41.heap.size ∧ w41.heap.size < w41.heap.size) by have := S3.out; have := S8.out; have := S13.out; have := S19.out; have := S25.out; have := S32.out; have := S40.out; have := S49.out; have := S59.out; have := S69.out; have := S79.out; have := S89.out; have := S99.out; omega))
    clear hc94
    have O105 := hid ((O95.out.later hL).keep fun b h1 h2 => hW.block b (by have := S3.out; have := S8.out; have := S13.out; have := S19.out; have := S25.out; have := S32.out; have := S40.out; have := S49.out; have := S59.out; have := S69.out; have := S79.out; have := S89.out; have := S99.out; omega))
    clear O95
    have O106 := hid ((O96.out.later hL).keep fun b h1 h2 => hW.block b (by have := S3.out; have := S8.out; have := S13.out; have := S19.out; have := S25.out; have := S32.out; have := S40.out; have := S49.out; have := S59.out; have := S69.out; have := S79.out; have := S89.out; have := S99.out; omega))
    clear O96
    have O107 := hid hown
    clear hown O97
    have L108 := hid (show Later w w100 from Wrote.below (L98.out.trans hL) hW (fun b hb => by have := S3.out; have := S8.out; have := S13.out; have := S19.out; have := S25.out; have := S32.out; have := S40.out; have := S49.out; have := S59.out; have := S69.out; have := S79.out; have := S89.out; have := S99.out; omega))
    clear L98
    have S109 := hid (show w90.heap.size ≤ w100.heap.size by have := hL.size; have := hW.size; omega)
    clear hL hW
    go_wp2_with fail
    refine (heldMatrix_any _ (o.getD []) _ _ ⟨by omega, by omega⟩ O107.out.rows).mono ?_
    rintro e w110 ⟨rfl, hL⟩
    have hc111 := hL.cell hc101
    have hc112 := hL.cell hc102
    have hc113 := hL.cell hc103
    have hc114 := hL.cell hc104
    have O115 := hid (O105.out.later hL)
    have O116 := hid (O106.out.later hL)
    have O117 := hid (O107.out.later hL)
    have L118 := hid (L108.out.trans hL)
    have S119 := hid hL.size
    clear hc101 hc102 hc103 hc104 O105 O106 O107 L108 hL
    go_wp2_with fail
    refine (toMatrix_any _ z0 _ HN0.out.1 HN0.out.2 (H0.out.later L118.out)).mono ?_
    rintro e w120 ⟨y120, rfl, hown, hL⟩
    obtain ⟨a120, cap120, rfl, _⟩ := hown.shape
    have O121 := hid hown
    clear hown
    have hc122 := hL.cell hc111
    have hc123 := hL.cell hc112
    have hc124 := hL.cell hc113
    have hc125 := hL.cell hc114
    have O126 := hid (O115.out.later hL)
    have O127 := hid (O116.out.later hL)
    have O128 := hid (O117.out.later hL)
    have L129 := hid (L118.out.trans hL)
    have S130 := hid hL.size
    clear hc111 hc112 hc113 hc114 O115 O116 O117 L118 hL
    go_wp2_with fail
    refine (HI.out _ _ (O121.out.rowsC)).mono ?_
    rintro e w131 ⟨y131, rfl, hown, hL⟩
    obtain ⟨a131, cap131, rfl, _⟩ := hown.shape
    have O132 := hid hown
    clear hown
    have hc133 := hL.cell hc122
    have hc134 := hL.cell hc123
    have hc135 := hL.cell hc124
    have hc136 := hL.cell hc125
    have O137 := hid (O126.out.later hL)
    have O138 := hid (O127.out.later hL)
    have O139 := hid (O128.out.later hL)
    have O140 := hid (O121.out.later hL)
    have L141 := hid (L129.out.trans hL)
    have S142 := hid hL.size
    clear hc122 hc123 hc124 hc125 O126 O127 O128 O121 L129 hL
    clear O140
    have hA := Later.alloc w131 (.cells #[Value.slice a131 (o.getD []).length cap131] 27)
    have hc145 := hA.cell hc133
    have hc146 := hA.cell hc134
    have hc147 := hA.cell hc135
    have hc148 := hA.cell hc136
    have O149 := hid (O137.out.later hA)
    have O150 := hid (O138.out.later hA)
    have O151 := hid (O139.out.later hA)
    have O152 := hid (O132.out.later hA)
    have L153 := hid (L141.out.trans hA)
    have S154 := hid (And.intro hA.size (show w131.heap.size < (w131.alloc (.cells #[Value.slice a131 (o.getD []).length cap131] 27)).heap.size by simp))
    clear hA
    go_wp2_with fail
    have hx144 : (w131.alloc (.cells #[Value.slice a131 (o.getD []).length cap131] 27)).cell? ⟨w131.heap.size, 0, none⟩ = some (Value.slice a131 (o.getD []).length cap131) := by simp [go_sem]
    clear hc133 hc134 hc135 hc136 O137 O138 O139 O132 L141
    generalize (w131.alloc (.cells #[Value.slice a131 (o.getD []).length cap131] 27)) = w143 at hx144 hc145 hc146 hc147 hc148 O149 O150 O151 O152 L153 S154 ⊢
    refine (eqMatrix_any _ _ _ _ _ (O152.out.rows) (O149.out.rows)).mono ?_
    rintro e w155 ⟨rfl, hL⟩
    rw [eqLL_self]
    have hc156 := hL.cell hc145
    have hc157 := hL.cell hc146
    have hc158 := hL.cell hc147
    have hc159 := hL.cell hc148
    have hc160 := hL.cell hx144
    have O161 := hid (O149.out.later hL)
    have O162 := hid (O150.out.later hL)
    have O163 := hid (O151.out.later hL)
    have O164 := hid (O152.out.later hL)
    have L165 := hid (L153.out.trans hL)
    have S166 := hid hL.size
    clear hc145 hc146 hc147 hc148 hx144 O149 O150 O151 O152 L153 hL
    go_wp2_with fail
    refine (heldMatrix_any _ (o.getD []) _ _ ⟨by omega, by omega⟩ O163.out.rows).mono ?_
    rintro e w167 ⟨rfl, hL⟩
    have hc168 := hL.cell hc156
    have hc169 := hL.cell hc157
    have hc170 := hL.cell hc158
    have hc171 := hL.cell hc159
    have hc172 := hL.cell hc160
    have O173 := hid (O161.out.later hL)
    have O174 := hid (O162.out.later hL)
    have O175 := hid (O163.out.later hL)
    have O176 := hid (O164.out.later hL)
    have L177 := hid (L165.out.trans hL)
    have S178 := hid hL.size
    clear hc156 hc157 hc158 hc159 hc160 O161 O162 O163 O164 L165 hL
    go_wp2_with fail
    go_ret
    exact ⟨rfl, L177.out⟩
end Go.Proofs.Ytedgccbogjinhaa
