/- The walk of the law FnExactMultiplyFour, over whatever contracts the model's and the program's functions have. -/
import Derived.Test.YtcgdegmhajfbaacAns
import Derived.Deep.RegionHeld3
import Derived.Deep.DeepCutAuto
namespace Go.Proofs.Ytcgdegmhajfbaac
open Go.RowKit

set_option maxRecDepth 20000 in
set_option maxHeartbeats 4000000 in
theorem lawMultiplyFour_gen (z0 : List Int) (z1 : List Int) (o : Option (List Int)) (hob : (o.getD []).length ≤ 1000000000000)
    (hS : ∀ (v0 : Value) (v1 : Value) (w : World), Ints w v0 z0 → Ints w v1 z1 → Calls Try.prog 20 #[v0, v1] w fun e w' => IntsAns w o e w')
    (hI : ∀ (v0 : Value) (v1 : Value) (w : World), Ints w v0 z0 → Ints w v1 z1 → Calls Try.prog 21 #[v0, v1] w fun e w' => IntsAns w o e w')
    (v0 : Value) (v1 : Value) (w : World) (h0 : Ints w v0 z0) (h1 : Ints w v1 z1) :
    Calls Try.prog 6 #[v0, v1] w fun e w' => e = .returned (.bool true) ∧ Later w w' := by
  have HS := hid hS
  have HI := hid hI
  clear hS hI
  obtain ⟨a00, cap00, rfl, hlen0, _⟩ := id h0
  have H0 := hid h0
  clear h0
  obtain ⟨a01, cap01, rfl, hlen1, _⟩ := id h1
  have H1 := hid h1
  clear h1
  by_cases hz0 : z0.length ≤ 1048576
  · skip
    have hq0 : ¬ (1048576 : Int) < (z0.length : Int) := by omega
    have HN0 := hid hz0
    by_cases hz1 : z1.length ≤ 1048576
    · skip
      have hq1 : ¬ (1048576 : Int) < (z1.length : Int) := by omega
      have HN1 := hid hz1
      go_enter Try.func6, Try.ntmps6
      go_wp2_with fail
      refine (toIntS_any _ z0 _ HN0.out H0.out).mono ?_
      rintro e w1 ⟨y1, rfl, hown, hL⟩
      obtain ⟨a1, cap1, rfl, _⟩ := hown.shape
      have O2 := hid hown
      clear hown
      have L3 := hid (hL)
      have S4 := hid hL.size
      clear hL
      go_wp2_with fail
      refine (toIntS_any _ z1 _ HN1.out (H1.out.later L3.out)).mono ?_
      rintro e w5 ⟨y5, rfl, hown, hL⟩
      obtain ⟨a5, cap5, rfl, _⟩ := hown.shape
      have O6 := hid hown
      clear hown
      have O7 := hid (O2.out.later hL)
      have L8 := hid (L3.out.trans hL)
      have S9 := hid hL.size
      clear O2 L3 hL
      go_wp2_with fail
      refine (HS.out _ _ _ (O7.out.ints) (O6.out.ints)).mono ?_
      rintro e w10 ⟨y10, rfl, hown, hL⟩
      obtain ⟨a10, cap10, rfl, _⟩ := hown.shape
      have O11 := hid hown
      clear hown
      have O12 := hid (O7.out.later hL)
      have O13 := hid (O6.out.later hL)
      have L14 := hid (L8.out.trans hL)
      have S15 := hid hL.size
      clear O7 O6 L8 hL
      clear O12
      clear O13
      go_wp2_with fail
      refine (toIntS_any _ z0 _ HN0.out (H0.out.later L14.out)).mono ?_
      rintro e w16 ⟨y16, rfl, hown, hL⟩
      obtain ⟨a16, cap16, rfl, _⟩ := hown.shape
      have O17 := hid hown
      clear hown
      have O18 := hid (O11.out.later hL)
      have L19 := hid (L14.out.trans hL)
      have S20 := hid hL.size
      clear O11 L14 hL
      go_wp2_with fail
      refine (toIntS_any _ z1 _ HN1.out (H1.out.later L19.out)).mono ?_
      rintro e w21 ⟨y21, rfl, hown, hL⟩
      obtain ⟨a21, cap21, rfl, _⟩ := hown.shape
      have O22 := hid hown
      clear hown
      have O23 := hid (O18.out.later hL)
      have O24 := hid (O17.out.later hL)
      have L25 := hid (L19.out.trans hL)
      have S26 := hid hL.size
      clear O18 O17 L19 hL
      go_wp2_with fail
      refine (HI.out _ _ _ (O24.out.ints) (O22.out.ints)).mono ?_
      rintro e w27 ⟨y27, rfl, hown, hL⟩
      obtain ⟨a27, cap27, rfl, _⟩ := hown.shape
      have O28 := hid hown
      clear hown
      have O29 := hid (O23.out.later hL)
      have O30 := hid (O24.out.later hL)
      have O31 := hid (O22.out.later hL)
      have L32 := hid (L25.out.trans hL)
      have S33 := hid hL.size
      clear O23 O24 O22 L25 hL
      have hne0 : ((o.isSome) != (o.isSome)) = false := by simp
      go_wp2_with fail
      refine (eqIntS_any _ _ _ _ _ (O28.out.ints) (O29.out.ints)).mono ?_
      rintro e w34 ⟨rfl, hD⟩
      have hL := hD.later
      clear hD
      rw [eqL_self]
      have O35 := hid (O29.out.later hL)
      have O36 := hid (O30.out.later hL)
      have O37 := hid (O31.out.later hL)
      have O38 := hid (O28.out.later hL)
      have L39 := hid (L32.out.trans hL)
      have S40 := hid hL.size
      clear O29 O30 O31 O28 L32 hL
      go_wp2_with fail
      refine (toIntS_any _ z0 _ HN0.out (H0.out.later L39.out)).mono ?_
      rintro e w41 ⟨y41, rfl, hown, hL⟩
      obtain ⟨a41, cap41, rfl, _⟩ := hown.shape
      have O42 := hid hown
      clear hown
      have O43 := hid (O35.out.later hL)
      have O44 := hid (O36.out.later hL)
      have O45 := hid (O37.out.later hL)
      have O46 := hid (O38.out.later hL)
      have L47 := hid (L39.out.trans hL)
      have S48 := hid hL.size
      clear O35 O36 O37 O38 L39 hL
      go_wp2_with fail
      refine (eqIntS_any _ _ _ _ _ (O44.out.ints) (O42.out.ints)).mono ?_
      rintro e w49 ⟨rfl, hD⟩
      have hL := hD.later
      clear hD
      rw [eqL_self]
      have O50 := hid (O43.out.later hL)
      have O51 := hid (O44.out.later hL)
      have O52 := hid (O45.out.later hL)
      have O53 := hid (O46.out.later hL)
      have O54 := hid (O42.out.later hL)
      have L55 := hid (L47.out.trans hL)
      have S56 := hid hL.size
      clear O43 O44 O45 O46 O42 L47 hL
      clear O54
      go_wp2_with fail
      refine (toIntS_any _ z1 _ HN1.out (H1.out.later L55.out)).mono ?_
      rintro e w57 ⟨y57, rfl, hown, hL⟩
      obtain ⟨a57, cap57, rfl, _⟩ := hown.shape
      have O58 := hid hown
      clear hown
      have O59 := hid (O50.out.later hL)
      have O60 := hid (O51.out.later hL)
      have O61 := hid (O52.out.later hL)
      have O62 := hid (O53.out.later hL)
      have L63 := hid (L55.out.trans hL)
      have S64 := hid hL.size
      clear O50 O51 O52 O53 L55 hL
      go_wp2_with fail
      refine (eqIntS_any _ _ _ _ _ (O61.out.ints) (O58.out.ints)).mono ?_
      rintro e w65 ⟨rfl, hD⟩
      have hL := hD.later
      clear hD
      rw [eqL_self]
      have O66 := hid (O59.out.later hL)
      have O67 := hid (O60.out.later hL)
      have O68 := hid (O61.out.later hL)
      have O69 := hid (O62.out.later hL)
      have O70 := hid (O58.out.later hL)
      have L71 := hid (L63.out.trans hL)
      have S72 := hid hL.size
      clear O59 O60 O61 O62 O58 L63 hL
      clear O70
      go_wp2_with fail
      refine (markIntS_any w10.heap.size (w16.heap.size) _ _ _ _ ⟨by omega, by omega⟩ O67.out).mono ?_
      rintro e w73 ⟨rfl, hown, hW⟩
      have hW := hW.mono (fun b hb => O67.out.blk hb)
      have hL := Later.refl w65
      have O74 := hid ((O66.out.later hL).keep fun b h1 h2 => hW.block b (by have := S4.out; have := S9.out; have := S15.out; have := S20.out; have := S26.out; have := S33.out; have := S40.out; have := S48.out; have := S56.out; have := S64.out; have := S72.out; omega))
      clear O66
      have O75 := hid ((O68.out.later hL).keep fun b h1 h2 => hW.block b (by have := S4.out; have := S9.out; have := S15.out; have := S20.out; have := S26.out; have := S33.out; have := S40.out; have := S48.out; have := S56.out; have := S64.out; have := S72.out; omega))
      clear O68
      have O76 := hid ((O69.out.later hL).keep fun b h1 h2 => hW.block b (by have := S4.out; have := S9.out; have := S15.out; have := S20.out; have := S26.out; have := S33.out; have := S40.out; have := S48.out; have := S56.out; have := S64.out; have := S72.out; omega))
      clear O69
      have O77 := hid hown
      clear hown O67
      have L78 := hid (show Later w w73 from Wrote.below (L71.out.trans hL) hW (fun b hb => by have := S4.out; have := S9.out; have := S15.out; have := S20.out; have := S26.out; have := S33.out; have := S40.out; have := S48.out; have := S56.out; have := S64.out; have := S72.out; omega))
      clear L71
      have S79 := hid (show w65.heap.size ≤ w73.heap.size by have := hL.size; have := hW.size; omega)
      clear hL hW
      go_wp2_with fail
      refine (markIntS_any w16.heap.size (w21.heap.size) _ _ _ _ ⟨by omega, by omega⟩ O75.out).mono ?_
      rintro e w80 ⟨rfl, hown, hW⟩
      have hW := hW.mono (fun b hb => O75.out.blk hb)
      have hL := Later.refl w73
      have O81 := hid ((O74.out.later hL).keep fun b h1 h2 => hW.block b (by have := S4.out; have := S9.out; have := S15.out; have := S20.out; have := S26.out; have := S33.out; have := S40.out; have := S48.out; have := S56.out; have := S64.out; have := S72.out; have := S79.out; omega))
      clear O74
      have O82 := hid ((O77.out.later hL).keep fun b h1 h2 => hW.block b (by have := S4.out; have := S9.out; have := S15.out; have := S20.out; have := S26.out; have := S33.out; have := S40.out; have := S48.out; have := S56.out; have := S64.out; have := S72.out; have := S79.out; omega))
      clear O77
      have O83 := hid ((O76.out.later hL).keep fun b h1 h2 => hW.block b (by have := S4.out; have := S9.out; have := S15.out; have := S20.out; have := S26.out; have := S33.out; have := S40.out; have := S48.out; have := S56.out; have := S64.out; have := S72.out; have := S79.out; omega))
      clear O76
      have O84 := hid hown
      clear hown O75
      have L85 := hid (show Later w w80 from Wrote.below (L78.out.trans hL) hW (fun b hb => by have := S4.out; have := S9.out; have := S15.out; have := S20.out; have := S26.out; have := S33.out; have := S40.out; have := S48.out; have := S56.out; have := S64.out; have := S72.out; have := S79.out; omega))
      clear L78
      have S86 := hid (show w73.heap.size ≤ w80.heap.size by have := hL.size; have := hW.size; omega)
      clear hL hW
      have hkn : ¬ (((1 : Int) + (z0.length : Int)) + (z1.length : Int)) < 0 := by omega
      go_wp2_with fail
      refine (eqIntS_any _ _ _ _ _ (O83.out.ints) (O81.out.ints)).mono ?_
      rintro e w87 ⟨rfl, hD⟩
      have hL := hD.later
      clear hD
      rw [eqL_self]
      have O88 := hid (O81.out.later hL)
      have O89 := hid (O82.out.later hL)
      have O90 := hid (O84.out.later hL)
      have O91 := hid (O83.out.later hL)
      have L92 := hid (L85.out.trans hL)
      have S93 := hid hL.size
      clear O81 O82 O84 O83 L85 hL
      go_wp2_with fail
      have hmm : (((1 : Int) + ((o.getD []).length : Int)) != ((1 : Int) + ((o.getD []).length : Int))) = false := by simp
      have hmn : ¬ (1 : Int) + ((o.getD []).length : Int) < 0 := by omega
      refine (markIntS_any w21.heap.size (w27.heap.size) _ _ _ _ ⟨by omega, by omega⟩ O91.out).mono ?_
      rintro e w94 ⟨rfl, hown, hW⟩
      have hW := hW.mono (fun b hb => O91.out.blk hb)
      have hL := Later.refl w87
      have O95 := hid ((O88.out.later hL).keep fun b h1 h2 => hW.block b (by have := S4.out; have := S9.out; have := S15.out; have := S20.out; have := S26.out; have := S33.out; have := S40.out; have := S48.out; have := S56.out; have := S64.out; have := S72.out; have := S79.out; have := S86.out; have := S93.out; omega))
      clear O88
      have O96 := hid ((O89.out.later hL).keep fun b h1 h2 => hW.block b (by have := S4.out; have := S9.out; have := S15.out; have := S20.out; have := S26.out; have := S33.out; have := S40.out; have := S48.out; have := S56.out; have := S64.out; have := S72.out; have := S79.out; have := S86.out; have := S93.out; omega))
      clear O89
      have O97 := hid ((O90.out.later hL).keep fun b h1 h2 => hW.block b (by have := S4.out; have := S9.out; have := S15.out; have := S20.out; have := S26.out; have := S33.out; have := S40.out; have := S48.out; have := S56.out; have := S64.out; have := S72.out; have := S79.out; have := S86.out; have := S93.out; omega))
      clear O90
      have O98 := hid hown
      clear hown O91
      have L99 := hid (show Later w w94 from Wrote.below (L92.out.trans hL) hW (fun b hb => by have := S4.out; have := S9.out; have := S15.out; have := S20.out; have := S26.out; have := S33.out; have := S40.out; have := S48.out; have := S56.out; have := S64.out; have := S72.out; have := S79.out; have := S86.out; have := S93.out; omega))
      clear L92
      have S100 := hid (show w87.heap.size ≤ w94.heap.size by have := hL.size; have := hW.size; omega)
      clear hL hW
      go_wp2_with fail
      refine (heldIntS_any _ (o.getD []).length _ _ ⟨by omega, by omega⟩ O98.out.ints).mono ?_
      rintro e w101 ⟨rfl, rfl⟩
      go_wp2_with fail
      refine (toIntS_any _ z0 _ HN0.out (H0.out.later L99.out)).mono ?_
      rintro e w102 ⟨y102, rfl, hown, hL⟩
      obtain ⟨a102, cap102, rfl, _⟩ := hown.shape
      have O103 := hid hown
      clear hown
      have O104 := hid (O95.out.later hL)
      have O105 := hid (O96.out.later hL)
      have O106 := hid (O97.out.later hL)
      have O107 := hid (O98.out.later hL)
      have L108 := hid (L99.out.trans hL)
      have S109 := hid hL.size
      clear O95 O96 O97 O98 L99 hL
      go_wp2_with fail
      refine (toIntS_any _ z1 _ HN1.out (H1.out.later L108.out)).mono ?_
      rintro e w110 ⟨y110, rfl, hown, hL⟩
      obtain ⟨a110, cap110, rfl, _⟩ := hown.shape
      have O111 := hid hown
      clear hown
      have O112 := hid (O104.out.later hL)
      have O113 := hid (O105.out.later hL)
      have O114 := hid (O106.out.later hL)
      have O115 := hid (O107.out.later hL)
      have O116 := hid (O103.out.later hL)
      have L117 := hid (L108.out.trans hL)
      have S118 := hid hL.size
      clear O104 O105 O106 O107 O103 L108 hL
      go_wp2_with fail
      refine (HI.out _ _ _ (O116.out.ints) (O111.out.ints)).mono ?_
      rintro e w119 ⟨y119, rfl, hown, hL⟩
      obtain ⟨a119, cap119, rfl, _⟩ := hown.shape
      have O120 := hid hown
      clear hown
      have O121 := hid (O112.out.later hL)
      have O122 := hid (O113.out.later hL)
      have O123 := hid (O114.out.later hL)
      have O124 := hid (O115.out.later hL)
      have O125 := hid (O116.out.later hL)
      have O126 := hid (O111.out.later hL)
      have L127 := hid (L117.out.trans hL)
      have S128 := hid hL.size
      clear O112 O113 O114 O115 O116 O111 L117 hL
      clear O125
      clear O126
      go_wp2_with fail
      refine (eqIntS_any _ _ _ _ _ (O120.out.ints) (O121.out.ints)).mono ?_
      rintro e w129 ⟨rfl, hD⟩
      have hL := hD.later
      clear hD
      rw [eqL_self]
      have O130 := hid (O121.out.later hL)
      have O131 := hid (O122.out.later hL)
      have O132 := hid (O123.out.later hL)
      have O133 := hid (O124.out.later hL)
      have O134 := hid (O120.out.later hL)
      have L135 := hid (L127.out.trans hL)
      have S136 := hid hL.size
      clear O121 O122 O123 O124 O120 L127 hL
      go_wp2_with fail
      refine (heldIntS_any _ (o.getD []).length _ _ ⟨by omega, by omega⟩ O133.out.ints).mono ?_
      rintro e w137 ⟨rfl, rfl⟩
      go_wp2_with fail
      go_ret
      exact ⟨rfl, L135.out⟩
    · have hq1 : (1048576 : Int) < (z1.length : Int) := by omega
      go_enter Try.func6, Try.ntmps6
      go_wp2_with fail
      go_ret
      exact ⟨rfl, Later.refl w⟩
  · have hq0 : (1048576 : Int) < (z0.length : Int) := by omega
    go_enter Try.func6, Try.ntmps6
    go_wp2_with fail
    go_ret
    exact ⟨rfl, Later.refl w⟩
end Go.Proofs.Ytcgdegmhajfbaac
