/- The walk of the law FnExactIsConfig, over whatever contracts the model's and the program's functions have. -/
import Derived.Test.YtljikcajfmnnmabCiC
import Derived.Deep.RegionHeld3
import Derived.Deep.DeepCutAuto
namespace Go.Proofs.Ytljikcajfmnnmab
open Go.RowKit

set_option maxRecDepth 20000 in
set_option maxHeartbeats 4000000 in
theorem lawIsConfig_gen (z0 : List Ci4) (o : Option Bool)
    (hS : ∀ (v0 : Value) (w : World), Cis w v0 z0 → Calls Try.prog 22 #[v0] w fun e w' => BoolAns w o e w')
    (hI : ∀ (v0 : Value) (w : World), Cis w v0 z0 → Calls Try.prog 23 #[v0] w fun e w' => BoolAns w o e w')
    (v0 : Value) (w : World) (h0 : CisA w v0 z0) :
    Calls Try.prog 5 #[v0] w fun e w' => e = .returned (.bool true) ∧ Later w w' := by
  have HS := hid hS
  have HI := hid hI
  clear hS hI
  obtain ⟨a00, cap00, rfl, hlen0, _⟩ := id h0
  have H0 := hid h0
  clear h0
  go_enter Try.func5, Try.ntmps5
  go_wp2_with fail
  refine (szCircleS_any _ z0 _ _ ⟨by omega, by omega⟩ H0.out).mono ?_
  rintro e w1 ⟨⟨r0, rfl, hr0⟩, rfl⟩
  rcases hr0 with rfl | ⟨hr0a, hr0b, hr0n⟩
  · go_wp2_with fail
    go_ret
    exact ⟨rfl, Later.refl _⟩
  · have hnr0 : ¬ r0 < 0 := by omega
    have HN0 := hid (show z0.length ≤ 1048576 by omega)
    go_wp2_with fail
    refine (toCircleS_any _ z0 _ HN0.out H0.out).mono ?_
    rintro e w2 ⟨y2, rfl, hown, hL⟩
    obtain ⟨a2, cap2, rfl, _⟩ := hown.shape
    have O3 := hid hown
    clear hown
    have L4 := hid (hL)
    have S5 := hid hL.size
    clear hL
    go_wp2_with fail
    refine (HS.out _ _ (O3.out.cis)).mono ?_
    rintro e w6 ⟨rfl, hL⟩
    have O7 := hid (O3.out.later hL)
    have L8 := hid (L4.out.trans hL)
    have S9 := hid hL.size
    clear O3 L4 hL
    clear O7
    go_wp2_with fail
    refine (toCircleS_any _ z0 _ HN0.out (H0.out.later L8.out)).mono ?_
    rintro e w10 ⟨y10, rfl, hown, hL⟩
    obtain ⟨a10, cap10, rfl, _⟩ := hown.shape
    have O11 := hid hown
    clear hown
    have L12 := hid (L8.out.trans hL)
    have S13 := hid hL.size
    clear L8 hL
    go_wp2_with fail
    refine (HI.out _ _ (O11.out.cis)).mono ?_
    rintro e w14 ⟨rfl, hL⟩
    have O15 := hid (O11.out.later hL)
    have L16 := hid (L12.out.trans hL)
    have S17 := hid hL.size
    clear O11 L12 hL
    have hne0 : ((o.getD false) != (o.getD false)) = false := by simp
    have hne1 : ((o.isSome) != (o.isSome)) = false := by simp
    go_wp2_with fail
    refine (toCircleS_any _ z0 _ HN0.out (H0.out.later L16.out)).mono ?_
    rintro e w18 ⟨y18, rfl, hown, hL⟩
    obtain ⟨a18, cap18, rfl, _⟩ := hown.shape
    have O19 := hid hown
    clear hown
    have O20 := hid (O15.out.later hL)
    have L21 := hid (L16.out.trans hL)
    have S22 := hid hL.size
    clear O15 L16 hL
    go_wp2_with fail
    refine (eqCircleS_same _ _ _ _ (O20.out.cis) (O19.out.cis)).mono ?_
    rintro e w23 ⟨rfl, hL⟩
    have O24 := hid (O20.out.later hL)
    have O25 := hid (O19.out.later hL)
    have L26 := hid (L21.out.trans hL)
    have S27 := hid hL.size
    clear O20 O19 L21 hL
    clear O25
    go_wp2_with fail
    go_ret
    exact ⟨rfl, L26.out⟩
end Go.Proofs.Ytljikcajfmnnmab
