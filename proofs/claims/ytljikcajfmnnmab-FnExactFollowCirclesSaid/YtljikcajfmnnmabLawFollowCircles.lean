/- The walk of the law FnExactFollowCircles, over whatever contracts the model's and the program's functions have. -/
import Derived.Test.YtljikcajfmnnmabCiC
import Derived.Deep.RegionHeld3
import Derived.Deep.DeepCutAuto
namespace Go.Proofs.Ytljikcajfmnnmab
open Go.RowKit

set_option maxRecDepth 20000 in
set_option maxHeartbeats 4000000 in
theorem lawFollowCircles_gen (z0 : List Ci4) (z1 : List Int) (o : Option (List Ci4)) (hob : (o.getD []).length ≤ 1000000000000)
    (hS : ∀ (v0 : Value) (v1 : Value) (w : World), Cis w v0 z0 → Ints w v1 z1 → Calls Try.prog 31 #[v0, v1] w fun e w' => CisAns w o e w')
    (hI : ∀ (v0 : Value) (v1 : Value) (w : World), Cis w v0 z0 → Ints w v1 z1 → Calls Try.prog 33 #[v0, v1] w fun e w' => CisAns w o e w')
    (v0 : Value) (v1 : Value) (w : World) (h0 : CisA w v0 z0) (h1 : Ints w v1 z1) :
    Calls Try.prog 8 #[v0, v1] w fun e w' => e = .returned (.bool true) ∧ Later w w' := by
  have HS := hid hS
  have HI := hid hI
  clear hS hI
  obtain ⟨a00, cap00, rfl, hlen0, _⟩ := id h0
  have H0 := hid h0
  clear h0
  obtain ⟨a01, cap01, rfl, hlen1, _⟩ := id h1
  have H1 := hid h1
  clear h1
  by_cases hz1 : z1.length ≤ 1048576
  · skip
    have hq1 : ¬ (1048576 : Int) < (z1.length : Int) := by omega
    have HN1 := hid hz1
    go_enter Try.func8, Try.ntmps8
    go_wp2_with fail
    refine (szCircleS_any _ z0 _ _ ⟨by omega, by omega⟩ H0.out).mono ?_
    rintro e w1 ⟨⟨r0, rfl, hr0⟩, rfl⟩
    rcases hr0 with rfl | ⟨hr0a, hr0b, hr0n⟩
    · go_wp2_with fail
      go_ret
      exact ⟨rfl, Later.refl _⟩
    · have hnr0 : ¬ r0 < 0 := by omega
      have HN0 := hid (show z0.length ≤ 1048576 by omega)
      go_wp2_with fail
      refine (toCircleS_any _ z0 _ HN0.out H0.out).mono ?_
      rintro e w2 ⟨y2, rfl, hown, hL⟩
      obtain ⟨a2, cap2, rfl, _⟩ := hown.shape
      have O3 := hid hown
      clear hown
      have L4 := hid (hL)
      have S5 := hid hL.size
      clear hL
      go_wp2_with fail
      refine (toIntS_any _ z1 _ HN1.out (H1.out.later L4.out)).mono ?_
      rintro e w6 ⟨y6, rfl, hown, hL⟩
      obtain ⟨a6, cap6, rfl, _⟩ := hown.shape
      have O7 := hid hown
      clear hown
      have O8 := hid (O3.out.later hL)
      have L9 := hid (L4.out.trans hL)
      have S10 := hid hL.size
      clear O3 L4 hL
      go_wp2_with fail
      refine (HS.out _ _ _ (O8.out.cis) (O7.out.ints)).mono ?_
      rintro e w11 ⟨y11, rfl, hown, hL⟩
      obtain ⟨a11, cap11, rfl, _⟩ := hown.shape
      have O12 := hid hown
      clear hown
      have O13 := hid (O8.out.later hL)
      have O14 := hid (O7.out.later hL)
      have L15 := hid (L9.out.trans hL)
      have S16 := hid hL.size
      clear O8 O7 L9 hL
      clear O13
      clear O14
      go_wp2_with fail
      refine (toCircleS_any _ z0 _ HN0.out (H0.out.later L15.out)).mono ?_
      rintro e w17 ⟨y17, rfl, hown, hL⟩
      obtain ⟨a17, cap17, rfl, _⟩ := hown.shape
      have O18 := hid hown
      clear hown
      have O19 := hid (O12.out.later hL)
      have L20 := hid (L15.out.trans hL)
      have S21 := hid hL.size
      clear O12 L15 hL
      go_wp2_with fail
      refine (toIntS_any _ z1 _ HN1.out (H1.out.later L20.out)).mono ?_
      rintro e w22 ⟨y22, rfl, hown, hL⟩
      obtain ⟨a22, cap22, rfl, _⟩ := hown.shape
      have O23 := hid hown
      clear hown
      have O24 := hid (O19.out.later hL)
      have O25 := hid (O18.out.later hL)
      have L26 := hid (L20.out.trans hL)
      have S27 := hid hL.size
      clear O19 O18 L20 hL
      go_wp2_with fail
      refine (HI.out _ _ _ (O25.out.cis) (O23.out.ints)).mono ?_
      rintro e w28 ⟨y28, rfl, hown, hL⟩
      obtain ⟨a28, cap28, rfl, _⟩ := hown.shape
      have O29 := hid hown
      clear hown
      have O30 := hid (O24.out.later hL)
      have O31 := hid (O25.out.later hL)
      have O32 := hid (O23.out.later hL)
      have L33 := hid (L26.out.trans hL)
      have S34 := hid hL.size
      clear O24 O25 O23 L26 hL
      have hne0 : ((o.isSome) != (o.isSome)) = false := by simp
      go_wp2_with fail
      refine (eqCircleS_same _ _ _ _ (O29.out.cis) (O30.out.cis)).mono ?_
      rintro e w35 ⟨rfl, hL⟩
      have O36 := hid (O30.out.later hL)
      have O37 := hid (O31.out.later hL)
      have O38 := hid (O32.out.later hL)
      have O39 := hid (O29.out.later hL)
      have L40 := hid (L33.out.trans hL)
      have S41 := hid hL.size
      clear O30 O31 O32 O29 L33 hL
      go_wp2_with fail
      refine (toCircleS_any _ z0 _ HN0.out (H0.out.later L40.out)).mono ?_
      rintro e w42 ⟨y42, rfl, hown, hL⟩
      obtain ⟨a42, cap42, rfl, _⟩ := hown.shape
      have O43 := hid hown
      clear hown
      have O44 := hid (O36.out.later hL)
      have O45 := hid (O37.out.later hL)
      have O46 := hid (O38.out.later hL)
      have O47 := hid (O39.out.later hL)
      have L48 := hid (L40.out.trans hL)
      have S49 := hid hL.size
      clear O36 O37 O38 O39 L40 hL
      go_wp2_with fail
      refine (eqCircleS_same _ _ _ _ (O45.out.cis) (O43.out.cis)).mono ?_
      rintro e w50 ⟨rfl, hL⟩
      have O51 := hid (O44.out.later hL)
      have O52 := hid (O45.out.later hL)
      have O53 := hid (O46.out.later hL)
      have O54 := hid (O47.out.later hL)
      have O55 := hid (O43.out.later hL)
      have L56 := hid (L48.out.trans hL)
      have S57 := hid hL.size
      clear O44 O45 O46 O47 O43 L48 hL
      clear O55
      go_wp2_with fail
      refine (toIntS_any _ z1 _ HN1.out (H1.out.later L56.out)).mono ?_
      rintro e w58 ⟨y58, rfl, hown, hL⟩
      obtain ⟨a58, cap58, rfl, _⟩ := hown.shape
      have O59 := hid hown
      clear hown
      have O60 := hid (O51.out.later hL)
      have O61 := hid (O52.out.later hL)
      have O62 := hid (O53.out.later hL)
      have O63 := hid (O54.out.later hL)
      have L64 := hid (L56.out.trans hL)
      have S65 := hid hL.size
      clear O51 O52 O53 O54 L56 hL
      go_wp2_with fail
      refine (eqIntS_any _ _ _ _ _ (O62.out.ints) (O59.out.ints)).mono ?_
      rintro e w66 ⟨rfl, hD⟩
      have hL := hD.later
      clear hD
      rw [eqL_self]
      have O67 := hid (O60.out.later hL)
      have O68 := hid (O61.out.later hL)
      have O69 := hid (O62.out.later hL)
      have O70 := hid (O63.out.later hL)
      have O71 := hid (O59.out.later hL)
      have L72 := hid (L64.out.trans hL)
      have S73 := hid hL.size
      clear O60 O61 O62 O63 O59 L64 hL
      clear O71
      go_wp2_with fail
      refine (markCircleS_any w11.heap.size (w17.heap.size) _ _ _ _ ⟨by omega, by omega⟩ O68.out).mono ?_
      rintro e w74 ⟨rfl, hown, hW⟩
      have hW := hW.mono (fun b hb => O68.out.blk hb)
      have hL := Later.refl w66
      have O75 := hid ((O67.out.later hL).keep fun b h1 h2 => hW.block b (by have := S5.out; have := S10.out; have := S16.out; have := S21.out; have := S27.out; have := S34.out; have := S41.out; have := S49.out; have := S57.out; have := S65.out; have := S73.out; omega))
      clear O67
      have O76 := hid ((O69.out.later hL).keep fun b h1 h2 => hW.block b (by have := S5.out; have := S10.out; have := S16.out; have := S21.out; have := S27.out; have := S34.out; have := S41.out; have := S49.out; have := S57.out; have := S65.out; have := S73.out; omega))
      clear O69
      have O77 := hid ((O70.out.later hL).keep fun b h1 h2 => hW.block b (by have := S5.out; have := S10.out; have := S16.out; have := S21.out; have := S27.out; have := S34.out; have := S41.out; have := S49.out; have := S57.out; have := S65.out; have := S73.out; omega))
      clear O70
      have O78 := hid hown
      clear hown O68
      have L79 := hid (show Later w w74 from Wrote.below (L72.out.trans hL) hW (fun b hb => by have := S5.out; have := S10.out; have := S16.out; have := S21.out; have := S27.out; have := S34.out; have := S41.out; have := S49.out; have := S57.out; have := S65.out; have := S73.out; omega))
      clear L72
      have S80 := hid (show w66.heap.size ≤ w74.heap.size by have := hL.size; have := hW.size; omega)
      clear hL hW
      go_wp2_with fail
      refine (markIntS_any w17.heap.size (w22.heap.size) _ _ _ _ ⟨by omega, by omega⟩ O76.out).mono ?_
      rintro e w81 ⟨rfl, hown, hW⟩
      have hW := hW.mono (fun b hb => O76.out.blk hb)
      have hL := Later.refl w74
      have O82 := hid ((O75.out.later hL).keep fun b h1 h2 => hW.block b (by have := S5.out; have := S10.out; have := S16.out; have := S21.out; have := S27.out; have := S34.out; have := S41.out; have := S49.out; have := S57.out; have := S65.out; have := S73.out; have := S80.out; omega))
      clear O75
      have O83 := hid ((O78.out.later hL).keep fun b h1 h2 => hW.block b (by have := S5.out; have := S10.out; have := S16.out; have := S21.out; have := S27.out; have := S34.out; have := S41.out; have := S49.out; have := S57.out; have := S65.out; have := S73.out; have := S80.out; omega))
      clear O78
      have O84 := hid ((O77.out.later hL).keep fun b h1 h2 => hW.block b (by have := S5.out; have := S10.out; have := S16.out; have := S21.out; have := S27.out; have := S34.out; have := S41.out; have := S49.out; have := S57.out; have := S65.out; have := S73.out; have := S80.out; omega))
      clear O77
      have O85 := hid hown
      clear hown O76
      have L86 := hid (show Later w w81 from Wrote.below (L79.out.trans hL) hW (fun b hb => by have := S5.out; have := S10.out; have := S16.out; have := S21.out; have := S27.out; have := S34.out; have := S41.out; have := S49.out; have := S57.out; have := S65.out; have := S73.out; have := S80.out; omega))
      clear L79
      have S87 := hid (show w74.heap.size ≤ w81.heap.size by have := hL.size; have := hW.size; omega)
      clear hL hW
      have hkn : ¬ (((1 : Int) + (4 * (z0.length : Int))) + (z1.length : Int)) < 0 := by omega
      go_wp2_with fail
      refine (eqCircleS_same _ _ _ _ (O84.out.cis) (O82.out.cis)).mono ?_
      rintro e w88 ⟨rfl, hL⟩
      have O89 := hid (O82.out.later hL)
      have O90 := hid (O83.out.later hL)
      have O91 := hid (O85.out.later hL)
      have O92 := hid (O84.out.later hL)
      have L93 := hid (L86.out.trans hL)
      have S94 := hid hL.size
      clear O82 O83 O85 O84 L86 hL
      go_wp2_with fail
      have hmm : (((1 : Int) + (4 * ((o.getD []).length : Int))) != ((1 : Int) + (4 * ((o.getD []).length : Int)))) = false := by simp
      have hmn : ¬ (1 : Int) + (4 * ((o.getD []).length : Int)) < 0 := by omega
      refine (markCircleS_any w22.heap.size (w28.heap.size) _ _ _ _ ⟨by omega, by omega⟩ O92.out).mono ?_
      rintro e w95 ⟨rfl, hown, hW⟩
      have hW := hW.mono (fun b hb => O92.out.blk hb)
      have hL := Later.refl w88
      have O96 := hid ((O89.out.later hL).keep fun b h1 h2 => hW.block b (by have := S5.out; have := S10.out; have := S16.out; have := S21.out; have := S27.out; have := S34.out; have := S41.out; have := S49.out; have := S57.out; have := S65.out; have := S73.out; have := S80.out; have := S87.out; have := S94.out; omega))
      clear O89
      have O97 := hid ((O90.out.later hL).keep fun b h1 h2 => hW.block b (by have := S5.out; have := S10.out; have := S16.out; have := S21.out; have := S27.out; have := S34.out; have := S41.out; have := S49.out; have := S57.out; have := S65.out; have := S73.out; have := S80.out; have := S87.out; have := S94.out; omega))
      clear O90
      have O98 := hid ((O91.out.later hL).keep fun b h1 h2 => hW.block b (by have := S5.out; have := S10.out; have := S16.out; have := S21.out; have := S27.out; have := S34.out; have := S41.out; have := S49.out; have := S57.out; have := S65.out; have := S73.out; have := S80.out; have := S87.out; have := S94.out; omega))
      clear O91
      have O99 := hid hown
      clear hown O92
      have L100 := hid (show Later w w95 from Wrote.below (L93.out.trans hL) hW (fun b hb => by have := S5.out; have := S10.out; have := S16.out; have := S21.out; have := S27.out; have := S34.out; have := S41.out; have := S49.out; have := S57.out; have := S65.out; have := S73.out; have := S80.out; have := S87.out; have := S94.out; omega))
      clear L93
      have S101 := hid (show w88.heap.size ≤ w95.heap.size by have := hL.size; have := hW.size; omega)
      clear hL hW
      go_wp2_with fail
      refine (heldCircleS_any _ (o.getD []).length _ _ ⟨by omega, by omega⟩ O99.out.cis).mono ?_
      rintro e w102 ⟨rfl, rfl⟩
      go_wp2_with fail
      refine (toCircleS_any _ z0 _ HN0.out (H0.out.later L100.out)).mono ?_
      rintro e w103 ⟨y103, rfl, hown, hL⟩
      obtain ⟨a103, cap103, rfl, _⟩ := hown.shape
      have O104 := hid hown
      clear hown
      have O105 := hid (O96.out.later hL)
      have O106 := hid (O97.out.later hL)
      have O107 := hid (O98.out.later hL)
      have O108 := hid (O99.out.later hL)
      have L109 := hid (L100.out.trans hL)
      have S110 := hid hL.size
      clear O96 O97 O98 O99 L100 hL
      go_wp2_with fail
      refine (toIntS_any _ z1 _ HN1.out (H1.out.later L109.out)).mono ?_
      rintro e w111 ⟨y111, rfl, hown, hL⟩
      obtain ⟨a111, cap111, rfl, _⟩ := hown.shape
      have O112 := hid hown
      clear hown
      have O113 := hid (O105.out.later hL)
      have O114 := hid (O106.out.later hL)
      have O115 := hid (O107.out.later hL)
      have O116 := hid (O108.out.later hL)
      have O117 := hid (O104.out.later hL)
      have L118 := hid (L109.out.trans hL)
      have S119 := hid hL.size
      clear O105 O106 O107 O108 O104 L109 hL
      go_wp2_with fail
      refine (HI.out _ _ _ (O117.out.cis) (O112.out.ints)).mono ?_
      rintro e w120 ⟨y120, rfl, hown, hL⟩
      obtain ⟨a120, cap120, rfl, _⟩ := hown.shape
      have O121 := hid hown
      clear hown
      have O122 := hid (O113.out.later hL)
      have O123 := hid (O114.out.later hL)
      have O124 := hid (O115.out.later hL)
      have O125 := hid (O116.out.later hL)
      have O126 := hid (O117.out.later hL)
      have O127 := hid (O112.out.later hL)
      have L128 := hid (L118.out.trans hL)
      have S129 := hid hL.size
      clear O113 O114 O115 O116 O117 O112 L118 hL
      clear O126
      clear O127
      go_wp2_with fail
      refine (eqCircleS_same _ _ _ _ (O121.out.cis) (O122.out.cis)).mono ?_
      rintro e w130 ⟨rfl, hL⟩
      have O131 := hid (O122.out.later hL)
      have O132 := hid (O123.out.later hL)
      have O133 := hid (O124.out.later hL)
      have O134 := hid (O125.out.later hL)
      have O135 := hid (O121.out.later hL)
      have L136 := hid (L128.out.trans hL)
      have S137 := hid hL.size
      clear O122 O123 O124 O125 O121 L128 hL
      go_wp2_with fail
      refine (heldCircleS_any _ (o.getD []).length _ _ ⟨by omega, by omega⟩ O134.out.cis).mono ?_
      rintro e w138 ⟨rfl, rfl⟩
      go_wp2_with fail
      go_ret
      exact ⟨rfl, L136.out⟩
  · have hq1 : (1048576 : Int) < (z1.length : Int) := by omega
    go_enter Try.func8, Try.ntmps8
    go_wp2_with fail
    go_ret
    exact ⟨rfl, Later.refl w⟩
end Go.Proofs.Ytljikcajfmnnmab
