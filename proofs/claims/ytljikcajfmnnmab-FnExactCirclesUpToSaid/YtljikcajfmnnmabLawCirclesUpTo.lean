/- The walk of the law FnExactCirclesUpTo, over whatever contracts the model's and the program's functions have. -/
import Derived.Test.YtljikcajfmnnmabCiC
import Derived.Deep.RegionHeld3
import Derived.Deep.DeepCutAuto
namespace Go.Proofs.Ytljikcajfmnnmab
open Go.RowKit

set_option maxRecDepth 20000 in
set_option maxHeartbeats 4000000 in
theorem lawCirclesUpTo_gen (z0 : List Ci4) (x1 : Int) (o : Option (List Ci4)) (hob : (o.getD []).length ≤ 1000000000000)
    (hS : ∀ (v0 : Value) (w : World), Cis w v0 z0 → Calls Try.prog 34 #[v0, .int .i64 x1] w fun e w' => CisAns w o e w')
    (hI : ∀ (v0 : Value) (w : World), Cis w v0 z0 → Calls Try.prog 35 #[v0, .int .i64 x1] w fun e w' => CisAns w o e w')
    (v0 : Value) (w : World) (h0 : CisA w v0 z0) :
    Calls Try.prog 9 #[v0, .int .i64 x1] w fun e w' => e = .returned (.bool true) ∧ Later w w' := by
  have HS := hid hS
  have HI := hid hI
  clear hS hI
  obtain ⟨a00, cap00, rfl, hlen0, _⟩ := id h0
  have H0 := hid h0
  clear h0
  go_enter Try.func9, Try.ntmps9
  go_wp2_with fail
  refine (szCircleS_any _ z0 _ _ ⟨by omega, by omega⟩ H0.out).mono ?_
  rintro e w1 ⟨⟨r0, rfl, hr0⟩, rfl⟩
  rcases hr0 with rfl | ⟨hr0a, hr0b, hr0n⟩
  · go_wp2_with fail
    go_ret
    exact ⟨rfl, Later.refl _⟩
  · have hnr0 : ¬ r0 < 0 := by omega
    have HN0 := hid (show z0.length ≤ 1048576 by omega)
    go_wp2_with fail
    refine (toCircleS_any _ z0 _ HN0.out H0.out).mono ?_
    rintro e w2 ⟨y2, rfl, hown, hL⟩
    obtain ⟨a2, cap2, rfl, _⟩ := hown.shape
    have O3 := hid hown
    clear hown
    have L4 := hid (hL)
    have S5 := hid hL.size
    clear hL
    go_wp2_with fail
    refine (HS.out _ _ (O3.out.cis)).mono ?_
    rintro e w6 ⟨y6, rfl, hown, hL⟩
    obtain ⟨a6, cap6, rfl, _⟩ := hown.shape
    have O7 := hid hown
    clear hown
    have O8 := hid (O3.out.later hL)
    have L9 := hid (L4.out.trans hL)
    have S10 := hid hL.size
    clear O3 L4 hL
    clear O8
    go_wp2_with fail
    refine (toCircleS_any _ z0 _ HN0.out (H0.out.later L9.out)).mono ?_
    rintro e w11 ⟨y11, rfl, hown, hL⟩
    obtain ⟨a11, cap11, rfl, _⟩ := hown.shape
    have O12 := hid hown
    clear hown
    have O13 := hid (O7.out.later hL)
    have L14 := hid (L9.out.trans hL)
    have S15 := hid hL.size
    clear O7 L9 hL
    go_wp2_with fail
    refine (HI.out _ _ (O12.out.cis)).mono ?_
    rintro e w16 ⟨y16, rfl, hown, hL⟩
    obtain ⟨a16, cap16, rfl, _⟩ := hown.shape
    have O17 := hid hown
    clear hown
    have O18 := hid (O13.out.later hL)
    have O19 := hid (O12.out.later hL)
    have L20 := hid (L14.out.trans hL)
    have S21 := hid hL.size
    clear O13 O12 L14 hL
    have hne0 : ((o.isSome) != (o.isSome)) = false := by simp
    go_wp2_with fail
    refine (eqCircleS_same _ _ _ _ (O17.out.cis) (O18.out.cis)).mono ?_
    rintro e w22 ⟨rfl, hL⟩
    have O23 := hid (O18.out.later hL)
    have O24 := hid (O19.out.later hL)
    have O25 := hid (O17.out.later hL)
    have L26 := hid (L20.out.trans hL)
    have S27 := hid hL.size
    clear O18 O19 O17 L20 hL
    go_wp2_with fail
    refine (toCircleS_any _ z0 _ HN0.out (H0.out.later L26.out)).mono ?_
    rintro e w28 ⟨y28, rfl, hown, hL⟩
    obtain ⟨a28, cap28, rfl, _⟩ := hown.shape
    have O29 := hid hown
    clear hown
    have O30 := hid (O23.out.later hL)
    have O31 := hid (O24.out.later hL)
    have O32 := hid (O25.out.later hL)
    have L33 := hid (L26.out.trans hL)
    have S34 := hid hL.size
    clear O23 O24 O25 L26 hL
    go_wp2_with fail
    refine (eqCircleS_same _ _ _ _ (O31.out.cis) (O29.out.cis)).mono ?_
    rintro e w35 ⟨rfl, hL⟩
    have O36 := hid (O30.out.later hL)
    have O37 := hid (O31.out.later hL)
    have O38 := hid (O32.out.later hL)
    have O39 := hid (O29.out.later hL)
    have L40 := hid (L33.out.trans hL)
    have S41 := hid hL.size
    clear O30 O31 O32 O29 L33 hL
    clear O39
    go_wp2_with fail
    refine (markCircleS_any w6.heap.size (w11.heap.size) _ _ _ _ ⟨by omega, by omega⟩ O37.out).mono ?_
    rintro e w42 ⟨rfl, hown, hW⟩
    have hW := hW.mono (fun b hb => O37.out.blk hb)
    have hL := Later.refl w35
    have O43 := hid ((O36.out.later hL).keep fun b h1 h2 => hW.block b (by have := S5.out; have := S10.out; have := S15.out; have := S21.out; have := S27.out; have := S34.out; have := S41.out; omega))
    clear O36
    have O44 := hid ((O38.out.later hL).keep fun b h1 h2 => hW.block b (by have := S5.out; have := S10.out; have := S15.out; have := S21.out; have := S27.out; have := S34.out; have := S41.out; omega))
    clear O38
    have O45 := hid hown
    clear hown O37
    have L46 := hid (show Later w w42 from Wrote.below (L40.out.trans hL) hW (fun b hb => by have := S5.out; have := S10.out; have := S15.out; have := S21.out; have := S27.out; have := S34.out; have := S41.out; omega))
    clear L40
    have S47 := hid (show w35.heap.size ≤ w42.heap.size by have := hL.size; have := hW.size; omega)
    clear hL hW
    have hkn : ¬ ((1 : Int) + (4 * (z0.length : Int))) < 0 := by omega
    go_wp2_with fail
    refine (eqCircleS_same _ _ _ _ (O44.out.cis) (O43.out.cis)).mono ?_
    rintro e w48 ⟨rfl, hL⟩
    have O49 := hid (O43.out.later hL)
    have O50 := hid (O45.out.later hL)
    have O51 := hid (O44.out.later hL)
    have L52 := hid (L46.out.trans hL)
    have S53 := hid hL.size
    clear O43 O45 O44 L46 hL
    go_wp2_with fail
    have hmm : (((1 : Int) + (4 * ((o.getD []).length : Int))) != ((1 : Int) + (4 * ((o.getD []).length : Int)))) = false := by simp
    have hmn : ¬ (1 : Int) + (4 * ((o.getD []).length : Int)) < 0 := by omega
    refine (markCircleS_any w11.heap.size (w16.heap.size) _ _ _ _ ⟨by omega, by omega⟩ O51.out).mono ?_
    rintro e w54 ⟨rfl, hown, hW⟩
    have hW := hW.mono (fun b hb => O51.out.blk hb)
    have hL := Later.refl w48
    have O55 := hid ((O49.out.later hL).keep fun b h1 h2 => hW.block b (by have := S5.out; have := S10.out; have := S15.out; have := S21.out; have := S27.out; have := S34.out; have := S41.out; have := S47.out; have := S53.out; omega))
    clear O49
    have O56 := hid ((O50.out.later hL).keep fun b h1 h2 => hW.block b (by have := S5.out; have := S10.out; have := S15.out; have := S21.out; have := S27.out; have := S34.out; have := S41.out; have := S47.out; have := S53.out; omega))
    clear O50
    have O57 := hid hown
    clear hown O51
    have L58 := hid (show Later w w54 from Wrote.below (L52.out.trans hL) hW (fun b hb => by have := S5.out; have := S10.out; have := S15.out; have := S21.out; have := S27.out; have := S34.out; have := S41.out; have := S47.out; have := S53.out; omega))
    clear L52
    have S59 := hid (show w48.heap.size ≤ w54.heap.size by have := hL.size; have := hW.size; omega)
    clear hL hW
    go_wp2_with fail
    refine (heldCircleS_any _ (o.getD []).length _ _ ⟨by omega, by omega⟩ O57.out.cis).mono ?_
    rintro e w60 ⟨rfl, rfl⟩
    go_wp2_with fail
    refine (toCircleS_any _ z0 _ HN0.out (H0.out.later L58.out)).mono ?_
    rintro e w61 ⟨y61, rfl, hown, hL⟩
    obtain ⟨a61, cap61, rfl, _⟩ := hown.shape
    have O62 := hid hown
    clear hown
    have O63 := hid (O55.out.later hL)
    have O64 := hid (O56.out.later hL)
    have O65 := hid (O57.out.later hL)
    have L66 := hid (L58.out.trans hL)
    have S67 := hid hL.size
    clear O55 O56 O57 L58 hL
    go_wp2_with fail
    refine (HI.out _ _ (O62.out.cis)).mono ?_
    rintro e w68 ⟨y68, rfl, hown, hL⟩
    obtain ⟨a68, cap68, rfl, _⟩ := hown.shape
    have O69 := hid hown
    clear hown
    have O70 := hid (O63.out.later hL)
    have O71 := hid (O64.out.later hL)
    have O72 := hid (O65.out.later hL)
    have O73 := hid (O62.out.later hL)
    have L74 := hid (L66.out.trans hL)
    have S75 := hid hL.size
    clear O63 O64 O65 O62 L66 hL
    clear O73
    go_wp2_with fail
    refine (eqCircleS_same _ _ _ _ (O69.out.cis) (O70.out.cis)).mono ?_
    rintro e w76 ⟨rfl, hL⟩
    have O77 := hid (O70.out.later hL)
    have O78 := hid (O71.out.later hL)
    have O79 := hid (O72.out.later hL)
    have O80 := hid (O69.out.later hL)
    have L81 := hid (L74.out.trans hL)
    have S82 := hid hL.size
    clear O70 O71 O72 O69 L74 hL
    go_wp2_with fail
    refine (heldCircleS_any _ (o.getD []).length _ _ ⟨by omega, by omega⟩ O79.out.cis).mono ?_
    rintro e w83 ⟨rfl, rfl⟩
    go_wp2_with fail
    go_ret
    exact ⟨rfl, L81.out⟩
end Go.Proofs.Ytljikcajfmnnmab
