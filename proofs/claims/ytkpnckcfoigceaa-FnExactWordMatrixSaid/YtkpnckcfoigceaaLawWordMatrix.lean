/- The walk of the law FnExactWordMatrix, over whatever contracts the model's and the program's functions have. -/
import Derived.Test.YtkpnckcfoigceaaAns
import Derived.Test.YtkpnckcfoigceaaWmO
import Derived.Deep.RegionHeld3
import Derived.Deep.DeepCutAuto
namespace Go.Proofs.Ytkpnckcfoigceaa
open Go.RowKit

set_option maxRecDepth 20000 in
set_option maxHeartbeats 4000000 in
theorem lawWordMatrix_gen (z0 : List (List (List Int))) (z1 : List Int) (o : Option (List (List Int))) (hob : off (o.getD []) (o.getD []).length ≤ 1000000000000)
    (hS : ∀ (v0 : Value) (v1 : Value) (w : World), MatsR w v0 z0 → Ints w v1 z1 → Calls Try.prog 7 #[v0, v1] w fun e w' => MatAns w o e w')
    (hI : ∀ (v0 : Value) (v1 : Value) (w : World), MatsR w v0 z0 → Ints w v1 z1 → Calls Try.prog 10 #[v0, v1] w fun e w' => MatAns w o e w')
    (v0 : Value) (v1 : Value) (w : World) (h0 : MatsR w v0 z0) (h1 : Ints w v1 z1) :
    Calls Try.prog 3 #[v0, v1] w fun e w' => e = .returned (.bool true) ∧ Later w w' := by
  have HS := hid hS
  have HI := hid hI
  clear hS hI
  obtain ⟨a00, cap00, rfl, hlen0, _⟩ := id h0
  have H0 := hid h0
  clear h0
  obtain ⟨a01, cap01, rfl, hlen1, _⟩ := id h1
  have H1 := hid h1
  clear h1
  by_cases hz1 : z1.length ≤ 1048576
  · skip
    have hq1 : ¬ (1048576 : Int) < (z1.length : Int) := by omega
    have HN1 := hid hz1
    go_enter Try.func3, Try.ntmps3
    go_wp2_with fail
    refine (szMatrixS_any _ z0 _ _ ⟨by omega, by omega⟩ H0.out).mono ?_
    rintro e w1 ⟨⟨r0, rfl, hr0⟩, hL⟩
    have L2 := hid (hL)
    have S3 := hid hL.size
    clear hL
    rcases hr0 with rfl | ⟨hr0a, hr0b, hr0n, hns0⟩
    · go_wp2_with fail
      go_ret
      exact ⟨rfl, L2.out⟩
    · have hnr0 : ¬ r0 < 0 := by omega
      have HN0 := hid (show SzAll z0 from ⟨by omega, fun i hi => (hns0 i hi).mono (by omega)⟩)
      clear hns0
      go_wp2_with fail
      refine (copyMats_any _ z0 _ HN0.out (H0.out.later L2.out)).mono ?_
      rintro e w4 ⟨y4, rfl, hown, hL⟩
      obtain ⟨a4, cap4, rfl⟩ := hown.shape
      have O5 := hid hown
      clear hown
      have L6 := hid (L2.out.trans hL)
      have S7 := hid hL.size
      clear L2 hL
      go_wp2_with fail
      refine (toIntS_any _ z1 _ HN1.out (H1.out.later L6.out)).mono ?_
      rintro e w8 ⟨y8, rfl, hown, hL⟩
      obtain ⟨a8, cap8, rfl, _⟩ := hown.shape
      have O9 := hid hown
      clear hown
      have O10 := hid (O5.out.later hL)
      have L11 := hid (L6.out.trans hL)
      have S12 := hid hL.size
      clear O5 L6 hL
      go_wp2_with fail
      refine (HS.out _ _ _ (O10.out.reads HN0.out.1) (O9.out.ints)).mono ?_
      rintro e w13 ⟨y13, rfl, hown, hL⟩
      obtain ⟨a13, cap13, rfl, _⟩ := hown.shape
      have O14 := hid hown
      clear hown
      have O15 := hid (O10.out.later hL)
      have O16 := hid (O9.out.later hL)
      have L17 := hid (L11.out.trans hL)
      have S18 := hid hL.size
      clear O10 O9 L11 hL
      clear O15
      clear O16
      have hA := Later.alloc w13 (.cells #[Value.slice a13 (o.getD []).length cap13] 27)
      have O21 := hid (O14.out.later hA)
      have L22 := hid (L17.out.trans hA)
      have S23 := hid (And.intro hA.size (show w13.heap.size < (w13.alloc (.cells #[Value.slice a13 (o.getD []).length cap13] 27)).heap.size by simp))
      clear hA
      go_wp2_with fail
      have hx20 : (w13.alloc (.cells #[Value.slice a13 (o.getD []).length cap13] 27)).cell? ⟨w13.heap.size, 0, none⟩ = some (Value.slice a13 (o.getD []).length cap13) := by simp [go_sem]
      clear O14 L17
      generalize (w13.alloc (.cells #[Value.slice a13 (o.getD []).length cap13] 27)) = w19 at hx20 O21 L22 S23 ⊢
      refine (copyMats_any _ z0 _ HN0.out (H0.out.later L22.out)).mono ?_
      rintro e w24 ⟨y24, rfl, hown, hL⟩
      obtain ⟨a24, cap24, rfl⟩ := hown.shape
      have O25 := hid hown
      clear hown
      have hc26 := hL.cell hx20
      have O27 := hid (O21.out.later hL)
      have L28 := hid (L22.out.trans hL)
      have S29 := hid hL.size
      clear hx20 O21 L22 hL
      go_wp2_with fail
      refine (toIntS_any _ z1 _ HN1.out (H1.out.later L28.out)).mono ?_
      rintro e w30 ⟨y30, rfl, hown, hL⟩
      obtain ⟨a30, cap30, rfl, _⟩ := hown.shape
      have O31 := hid hown
      clear hown
      have hc32 := hL.cell hc26
      have O33 := hid (O27.out.later hL)
      have O34 := hid (O25.out.later hL)
      have L35 := hid (L28.out.trans hL)
      have S36 := hid hL.size
      clear hc26 O27 O25 L28 hL
      go_wp2_with fail
      refine (HI.out _ _ _ (O34.out.reads HN0.out.1) (O31.out.ints)).mono ?_
      rintro e w37 ⟨y37, rfl, hown, hL⟩
      obtain ⟨a37, cap37, rfl, _⟩ := hown.shape
      have O38 := hid hown
      clear hown
      have hc39 := hL.cell hc32
      have O40 := hid (O33.out.later hL)
      have O41 := hid (O34.out.later hL)
      have O42 := hid (O31.out.later hL)
      have L43 := hid (L35.out.trans hL)
      have S44 := hid hL.size
      clear hc32 O33 O34 O31 L35 hL
      have hne0 : ((o.isSome) != (o.isSome)) = false := by simp
      have hA := Later.alloc w37 (.cells #[Value.slice a37 (o.getD []).length cap37] 27)
      have hc47 := hA.cell hc39
      have O48 := hid (O40.out.later hA)
      have O49 := hid (O41.out.later hA)
      have O50 := hid (O42.out.later hA)
      have O51 := hid (O38.out.later hA)
      have L52 := hid (L43.out.trans hA)
      have S53 := hid (And.intro hA.size (show w37.heap.size < (w37.alloc (.cells #[Value.slice a37 (o.getD []).length cap37] 27)).heap.size by simp))
      clear hA
      go_wp2_with fail
      have hx46 : (w37.alloc (.cells #[Value.slice a37 (o.getD []).length cap37] 27)).cell? ⟨w37.heap.size, 0, none⟩ = some (Value.slice a37 (o.getD []).length cap37) := by simp [go_sem]
      clear hc39 O40 O41 O42 O38 L43
      generalize (w37.alloc (.cells #[Value.slice a37 (o.getD []).length cap37] 27)) = w45 at hx46 hc47 O48 O49 O50 O51 L52 S53 ⊢
      refine (eqMatrix_any _ _ _ _ _ (O51.out.rows) (O48.out.rows)).mono ?_
      rintro e w54 ⟨rfl, hL⟩
      rw [eqLL_self]
      have hc55 := hL.cell hc47
      have hc56 := hL.cell hx46
      have O57 := hid (O48.out.later hL)
      have O58 := hid (O49.out.later hL)
      have O59 := hid (O50.out.later hL)
      have O60 := hid (O51.out.later hL)
      have L61 := hid (L52.out.trans hL)
      have S62 := hid hL.size
      clear hc47 hx46 O48 O49 O50 O51 L52 hL
      go_wp2_with fail
      refine (copyMats_any _ z0 _ HN0.out (H0.out.later L61.out)).mono ?_
      rintro e w63 ⟨y63, rfl, hown, hL⟩
      obtain ⟨a63, cap63, rfl⟩ := hown.shape
      have O64 := hid hown
      clear hown
      have hc65 := hL.cell hc55
      have hc66 := hL.cell hc56
      have O67 := hid (O57.out.later hL)
      have O68 := hid (O58.out.later hL)
      have O69 := hid (O59.out.later hL)
      have O70 := hid (O60.out.later hL)
      have L71 := hid (L61.out.trans hL)
      have S72 := hid hL.size
      clear hc55 hc56 O57 O58 O59 O60 L61 hL
      go_wp2_with fail
      refine (eqMatrixS_same _ _ _ _ (O68.out.reads HN0.out.1) (O64.out.reads HN0.out.1)).mono ?_
      rintro e w73 ⟨rfl, hL⟩
      have hc74 := hL.cell hc65
      have hc75 := hL.cell hc66
      have O76 := hid (O67.out.later hL)
      have O77 := hid (O68.out.later hL)
      have O78 := hid (O69.out.later hL)
      have O79 := hid (O70.out.later hL)
      have O80 := hid (O64.out.later hL)
      have L81 := hid (L71.out.trans hL)
      have S82 := hid hL.size
      clear hc65 hc66 O67 O68 O69 O70 O64 L71 hL
      clear O80
      go_wp2_with fail
      refine (toIntS_any _ z1 _ HN1.out (H1.out.later L81.out)).mono ?_
      rintro e w83 ⟨y83, rfl, hown, hL⟩
      obtain ⟨a83, cap83, rfl, _⟩ := hown.shape
      have O84 := hid hown
      clear hown
      have hc85 := hL.cell hc74
      have hc86 := hL.cell hc75
      have O87 := hid (O76.out.later hL)
      have O88 := hid (O77.out.later hL)
      have O89 := hid (O78.out.later hL)
      have O90 := hid (O79.out.later hL)
      have L91 := hid (L81.out.trans hL)
      have S92 := hid hL.size
      clear hc74 hc75 O76 O77 O78 O79 L81 hL
      go_wp2_with fail
      refine (eqIntS_any _ _ _ _ _ (O89.out.ints) (O84.out.ints)).mono ?_
      rintro e w93 ⟨rfl, hD⟩
      have hL := hD.later
      clear hD
      rw [eqL_self]
      have hc94 := hL.cell hc85
      have hc95 := hL.cell hc86
      have O96 := hid (O87.out.later hL)
      have O97 := hid (O88.out.later hL)
      have O98 := hid (O89.out.later hL)
      have O99 := hid (O90.out.later hL)
      have O100 := hid (O84.out.later hL)
      have L101 := hid (L91.out.trans hL)
      have S102 := hid hL.size
      clear hc85 hc86 O87 O88 O89 O90 O84 L91 hL
      clear O100
      go_wp2_with fail
      refine (markMats_any w19.heap.size (w24.heap.size) _ _ _ _ (by omega) (by omega) HN0.out O97.out).mono ?_
      rintro e w103 ⟨km103, rfl, hka103, hkb103, hW⟩
      have hL := Later.refl w93
      have hc104 := cell_keep (hL.cell hc94) (hW.block _ (show ¬ (w19.heap.size ≤ w13.heap.size ∧ w13.heap.size < w24.heap.size) by have := S3.out; have := S7.out; have := S12.out; have := S18.out; have := S23.out; have := S29.out; have := S36.out; have := S44.out; have := S53.out; have := S62.out; have := S72.out; have := S82.out; have := S92.out; have := S102.out; omega))
      clear hc94
      have hc105 := cell_keep (hL.cell hc95) (hW.block _ (show ¬ (w19.heap.size ≤ w37.heap.size ∧ w37.heap.size < w24.heap.size) by have := S3.out; have := S7.out; have := S12.out; have := S18.out; have := S23.out; have := S29.out; have := S36.out; have := S44.out; have := S53.out; have := S62.out; have := S72.out; have := S82.out; have := S92.out; have := S102.out; omega))
      clear hc95
      have O106 := hid ((O96.out.later hL).keep fun b h1 h2 => hW.block b (by have := S3.out; have := S7.out; have := S12.out; have := S18.out; have := S23.out; have := S29.out; have := S36.out; have := S44.out; have := S53.out; have := S62.out; have := S72.out; have := S82.out; have := S92.out; have := S102.out; omega))
      clear O96
      have O107 := hid ((O98.out.later hL).keep fun b h1 h2 => hW.block b (by have := S3.out; have := S7.out; have := S12.out; have := S18.out; have := S23.out; have := S29.out; have := S36.out; have := S44.out; have := S53.out; have := S62.out; have := S72.out; have := S82.out; have := S92.out; have := S102.out; omega))
      clear O98
      have O108 := hid ((O99.out.later hL).keep fun b h1 h2 => hW.block b (by have := S3.out; have := S7.out; have := S12.out; have := S18.out; have := S23.out; have := S29.out; have := S36.out; have := S44.out; have := S53.out; have := S62.out; have := S72.out; have := S82.out; have := S92.out; have := S102.out; omega))
      clear O99
      clear O97
      have L109 := hid (show Later w w103 from Wrote.below (L101.out.trans hL) hW (fun b hb => by have := S3.out; have := S7.out; have := S12.out; have := S18.out; have := S23.out; have := S29.out; have := S36.out; have := S44.out; have := S53.out; have := S62.out; have := S72.out; have := S82.out; have := S92.out; have := S102.out; omega))
      clear L101
      have S110 := hid (show w93.heap.size ≤ w103.heap.size by have := hL.size; have := hW.size; omega)
      clear hL hW
      go_wp2_with fail
      refine (markIntS_any w24.heap.size (w30.heap.size) _ _ _ _ ⟨by omega, by omega⟩ O107.out).mono ?_
      rintro e w111 ⟨rfl, hown, hW⟩
      have hW := hW.mono (fun b hb => O107.out.blk hb)
      have hL := Later.refl w103
      have hc112 := cell_keep (hL.cell hc104) (hW.block _ (show ¬ (w24.heap.size ≤ w13.heap.size ∧ w13.heap.size < w30.heap.size) by have := S3.out; have := S7.out; have := S12.out; have := S18.out; have := S23.out; have := S29.out; have := S36.out; have := S44.out; have := S53.out; have := S62.out; have := S72.out; have := S82.out; have := S92.out; have := S102.out; have := S110.out; omega))
      clear hc104
      have hc113 := cell_keep (hL.cell hc105) (hW.block _ (show ¬ (w24.heap.size ≤ w37.heap.size ∧ w37.heap.size < w30.heap.size) by have := S3.out; have := S7.out; have := S12.out; have := S18.out; have := S23.out; have := S29.out; have := S36.out; have := S44.out; have := S53.out; have := S62.out; have := S72.out; have := S82.out; have := S92.out; have := S102.out; have := S110.out; omega))
      clear hc105
      have O114 := hid ((O106.out.later hL).keep fun b h1 h2 => hW.block b (by have := S3.out; have := S7.out; have := S12.out; have := S18.out; have := S23.out; have := S29.out; have := S36.out; have := S44.out; have := S53.out; have := S62.out; have := S72.out; have := S82.out; have := S92.out; have := S102.out; have := S110.out; omega))
      clear O106
      have O115 := hid ((O108.out.later hL).keep fun b h1 h2 => hW.block b (by have := S3.out; have := S7.out; have := S12.out; have := S18.out; have := S23.out; have := S29.out; have := S36.out; have := S44.out; have := S53.out; have := S62.out; have := S72.out; have := S82.out; have := S92.out; have := S102.out; have := S110.out; omega))
      clear O108
      have O116 := hid hown
      clear hown O107
      have L117 := hid (show Later w w111 from Wrote.below (L109.out.trans hL) hW (fun b hb => by have := S3.out; have := S7.out; have := S12.out; have := S18.out; have := S23.out; have := S29.out; have := S36.out; have := S44.out; have := S53.out; have := S62.out; have := S72.out; have := S82.out; have := S92.out; have := S102.out; have := S110.out; omega))
      clear L109
      have S118 := hid (show w103.heap.size ≤ w111.heap.size by have := hL.size; have := hW.size; omega)
      clear hL hW
      have hkn : ¬ (km103 + (z1.length : Int)) < 0 := by omega
      go_wp2_with fail
      refine (eqMatrix_any _ _ _ _ _ (O115.out.rows) (O114.out.rows)).mono ?_
      rintro e w119 ⟨rfl, hL⟩
      rw [eqLL_self]
      have hc120 := hL.cell hc112
      have hc121 := hL.cell hc113
      have O122 := hid (O114.out.later hL)
      have O123 := hid (O116.out.later hL)
      have O124 := hid (O115.out.later hL)
      have L125 := hid (L117.out.trans hL)
      have S126 := hid hL.size
      clear hc112 hc113 O114 O116 O115 L117 hL
      go_wp2_with fail
      have hmm : (((1 : Int) + (off (o.getD []) (o.getD []).length : Int)) != ((1 : Int) + (off (o.getD []) (o.getD []).length : Int))) = false := by simp
      have hmn : ¬ (1 : Int) + (off (o.getD []) (o.getD []).length : Int) < 0 := by omega
      refine (markMatrix_any w30.heap.size (w37.heap.size) _ _ _ _ ⟨by omega, by omega⟩ O124.out).mono ?_
      rintro e w127 ⟨wm127, hL, rfl, hown, hW⟩
      have hc128 := cell_keep (hL.cell hc120) (hW.block _ (show ¬ (w30.heap.size ≤ w13.heap.size ∧ w13.heap.size < w37.heap.size) by have := S3.out; have := S7.out; have := S12.out; have := S18.out; have := S23.out; have := S29.out; have := S36.out; have := S44.out; have := S53.out; have := S62.out; have := S72.out; have := S82.out; have := S92.out; have := S102.out; have := S110.out; have := S118.out; have := S126.out; omega))
      clear hc120
      have hc129 := cell_keep (hL.cell hc121) (hW.block _ (show ¬ (w30.heap.size ≤ w37.heap.size ∧ w37.heap.size < w37.heap.size) by have := S3.out; have := S7.out; have := S12.out; have := S18.out; have := S23.out; have := S29.out; have := S36.out; have := S44.out; have := S53.out; have := S62.out; have := S72.out; have := S82.out; have := S92.out; have := S102.out; have := S110.out; have := S118.out; have := S126.out; omega))
      clear hc121
      have O130 := hid ((O122.out.later hL).keep fun b h1 h2 => hW.block b (by have := S3.out; have := S7.out; have := S12.out; have := S18.out; have := S23.out; have := S29.out; have := S36.out; have := S44.out; have := S53.out; have := S62.out; have := S72.out; have := S82.out; have := S92.out; have := S102.out; have := S110.out; have := S118.out; have := S126.out; omega))
      clear O122
      have O131 := hid ((O123.out.later hL).keep fun b h1 h2 => hW.block b (by have := S3.out; have := S7.out; have := S12.out; have := S18.out; have := S23.out; have := S29.out; have := S36.out; have := S44.out; have := S53.out; have := S62.out; have := S72.out; have := S82.out; have := S92.out; have := S102.out; have := S110.out; have := S118.out; have := S126.out; omega))
      clear O123
      have O132 := hid hown
      clear hown O124
      have L133 := hid (show Later w w127 from Wrote.below (L125.out.trans hL) hW (fun b hb => by have := S3.out; have := S7.out; have := S12.out; have := S18.out; have := S23.out; have := S29.out; have := S36.out; have := S44.out; have := S53.out; have := S62.out; have := S72.out; have := S82.out; have := S92.out; have := S102.out; have := S110.out; have := S118.out; have := S126.out; omega))
      clear L125
      have S134 := hid (show w119.heap.size ≤ w127.heap.size by have := hL.size; have := hW.size; omega)
      clear hL hW
      go_wp2_with fail
      refine (heldMatrix_any _ (o.getD []) _ _ ⟨by omega, by omega⟩ O132.out.rows).mono ?_
      rintro e w135 ⟨rfl, hL⟩
      have hc136 := hL.cell hc128
      have hc137 := hL.cell hc129
      have O138 := hid (O130.out.later hL)
      have O139 := hid (O131.out.later hL)
      have O140 := hid (O132.out.later hL)
      have L141 := hid (L133.out.trans hL)
      have S142 := hid hL.size
      clear hc128 hc129 O130 O131 O132 L133 hL
      go_wp2_with fail
      refine (copyMats_any _ z0 _ HN0.out (H0.out.later L141.out)).mono ?_
      rintro e w143 ⟨y143, rfl, hown, hL⟩
      obtain ⟨a143, cap143, rfl⟩ := hown.shape
      have O144 := hid hown
      clear hown
      have hc145 := hL.cell hc136
      have hc146 := hL.cell hc137
      have O147 := hid (O138.out.later hL)
      have O148 := hid (O139.out.later hL)
      have O149 := hid (O140.out.later hL)
      have L150 := hid (L141.out.trans hL)
      have S151 := hid hL.size
      clear hc136 hc137 O138 O139 O140 L141 hL
      go_wp2_with fail
      refine (toIntS_any _ z1 _ HN1.out (H1.out.later L150.out)).mono ?_
      rintro e w152 ⟨y152, rfl, hown, hL⟩
      obtain ⟨a152, cap152, rfl, _⟩ := hown.shape
      have O153 := hid hown
      clear hown
      have hc154 := hL.cell hc145
      have hc155 := hL.cell hc146
      have O156 := hid (O147.out.later hL)
      have O157 := hid (O148.out.later hL)
      have O158 := hid (O149.out.later hL)
      have O159 := hid (O144.out.later hL)
      have L160 := hid (L150.out.trans hL)
      have S161 := hid hL.size
      clear hc145 hc146 O147 O148 O149 O144 L150 hL
      go_wp2_with fail
      refine (HI.out _ _ _ (O159.out.reads HN0.out.1) (O153.out.ints)).mono ?_
      rintro e w162 ⟨y162, rfl, hown, hL⟩
      obtain ⟨a162, cap162, rfl, _⟩ := hown.shape
      have O163 := hid hown
      clear hown
      have hc164 := hL.cell hc154
      have hc165 := hL.cell hc155
      have O166 := hid (O156.out.later hL)
      have O167 := hid (O157.out.later hL)
      have O168 := hid (O158.out.later hL)
      have O169 := hid (O159.out.later hL)
      have O170 := hid (O153.out.later hL)
      have L171 := hid (L160.out.trans hL)
      have S172 := hid hL.size
      clear hc154 hc155 O156 O157 O158 O159 O153 L160 hL
      clear O169
      clear O170
      have hA := Later.alloc w162 (.cells #[Value.slice a162 (o.getD []).length cap162] 27)
      have hc175 := hA.cell hc164
      have hc176 := hA.cell hc165
      have O177 := hid (O166.out.later hA)
      have O178 := hid (O167.out.later hA)
      have O179 := hid (O168.out.later hA)
      have O180 := hid (O163.out.later hA)
      have L181 := hid (L171.out.trans hA)
      have S182 := hid (And.intro hA.size (show w162.heap.size < (w162.alloc (.cells #[Value.slice a162 (o.getD []).length cap162] 27)).heap.size by simp))
      clear hA
      go_wp2_with fail
      have hx174 : (w162.alloc (.cells #[Value.slice a162 (o.getD []).length cap162] 27)).cell? ⟨w162.heap.size, 0, none⟩ = some (Value.slice a162 (o.getD []).length cap162) := by simp [go_sem]
      clear hc164 hc165 O166 O167 O168 O163 L171
      generalize (w162.alloc (.cells #[Value.slice a162 (o.getD []).length cap162] 27)) = w173 at hx174 hc175 hc176 O177 O178 O179 O180 L181 S182 ⊢
      refine (eqMatrix_any _ _ _ _ _ (O180.out.rows) (O177.out.rows)).mono ?_
      rintro e w183 ⟨rfl, hL⟩
      rw [eqLL_self]
      have hc184 := hL.cell hc175
      have hc185 := hL.cell hc176
      have hc186 := hL.cell hx174
      have O187 := hid (O177.out.later hL)
      have O188 := hid (O178.out.later hL)
      have O189 := hid (O179.out.later hL)
      have O190 := hid (O180.out.later hL)
      have L191 := hid (L181.out.trans hL)
      have S192 := hid hL.size
      clear hc175 hc176 hx174 O177 O178 O179 O180 L181 hL
      go_wp2_with fail
      refine (heldMatrix_any _ (o.getD []) _ _ ⟨by omega, by omega⟩ O189.out.rows).mono ?_
      rintro e w193 ⟨rfl, hL⟩
      have hc194 := hL.cell hc184
      have hc195 := hL.cell hc185
      have hc196 := hL.cell hc186
      have O197 := hid (O187.out.later hL)
      have O198 := hid (O188.out.later hL)
      have O199 := hid (O189.out.later hL)
      have O200 := hid (O190.out.later hL)
      have L201 := hid (L191.out.trans hL)
      have S202 := hid hL.size
      clear hc184 hc185 hc186 O187 O188 O189 O190 L191 hL
      go_wp2_with fail
      go_ret
      exact ⟨rfl, L201.out⟩
  · have hq1 : (1048576 : Int) < (z1.length : Int) := by omega
    go_enter Try.func3, Try.ntmps3
    go_wp2_with fail
    go_ret
    exact ⟨rfl, Later.refl w⟩
end Go.Proofs.Ytkpnckcfoigceaa
