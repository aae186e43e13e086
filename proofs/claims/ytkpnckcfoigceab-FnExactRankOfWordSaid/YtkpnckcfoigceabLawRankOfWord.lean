/- The walk of the law FnExactRankOfWord, over whatever contracts the model's and the program's functions have. -/
import Derived.Test.YtkpnckcfoigceabAns
import Derived.Deep.RegionHeld3
import Derived.Deep.DeepCutAuto
namespace Go.Proofs.Ytkpnckcfoigceab
open Go.RowKit

set_option maxRecDepth 20000 in
set_option maxHeartbeats 4000000 in
theorem lawRankOfWord_gen (z0 : List Int) (o : Option Int)
    (hS : ∀ (v0 : Value) (w : World), Ints w v0 z0 → Calls Try.prog 14 #[v0] w fun e w' => NumAns w o e w')
    (hI : ∀ (v0 : Value) (w : World), Ints w v0 z0 → Calls Try.prog 15 #[v0] w fun e w' => NumAns w o e w')
    (v0 : Value) (w : World) (h0 : Ints w v0 z0) :
    Calls Try.prog 5 #[v0] w fun e w' => e = .returned (.bool true) ∧ Later w w' := by
  have HS := hid hS
  have HI := hid hI
  clear hS hI
  obtain ⟨a00, cap00, rfl, hlen0, _⟩ := id h0
  have H0 := hid h0
  clear h0
  by_cases hz0 : z0.length ≤ 1048576
  · skip
    have hq0 : ¬ (1048576 : Int) < (z0.length : Int) := by omega
    have HN0 := hid hz0
    go_enter Try.func5, Try.ntmps5
    go_wp2_with fail
    refine (toIntS_any _ z0 _ HN0.out H0.out).mono ?_
    rintro e w1 ⟨y1, rfl, hown, hL⟩
    obtain ⟨a1, cap1, rfl, _⟩ := hown.shape
    have O2 := hid hown
    clear hown
    have L3 := hid (hL)
    have S4 := hid hL.size
    clear hL
    go_wp2_with fail
    refine (HS.out _ _ (O2.out.ints)).mono ?_
    rintro e w5 ⟨rfl, hL⟩
    have O6 := hid (O2.out.later hL)
    have L7 := hid (L3.out.trans hL)
    have S8 := hid hL.size
    clear O2 L3 hL
    clear O6
    go_wp2_with fail
    refine (toIntS_any _ z0 _ HN0.out (H0.out.later L7.out)).mono ?_
    rintro e w9 ⟨y9, rfl, hown, hL⟩
    obtain ⟨a9, cap9, rfl, _⟩ := hown.shape
    have O10 := hid hown
    clear hown
    have L11 := hid (L7.out.trans hL)
    have S12 := hid hL.size
    clear L7 hL
    go_wp2_with fail
    refine (HI.out _ _ (O10.out.ints)).mono ?_
    rintro e w13 ⟨rfl, hL⟩
    have O14 := hid (O10.out.later hL)
    have L15 := hid (L11.out.trans hL)
    have S16 := hid hL.size
    clear O10 L11 hL
    have hne0 : ((o.getD 0) != (o.getD 0)) = false := by simp
    have hne1 : ((o.isSome) != (o.isSome)) = false := by simp
    go_wp2_with fail
    refine (toIntS_any _ z0 _ HN0.out (H0.out.later L15.out)).mono ?_
    rintro e w17 ⟨y17, rfl, hown, hL⟩
    obtain ⟨a17, cap17, rfl, _⟩ := hown.shape
    have O18 := hid hown
    clear hown
    have O19 := hid (O14.out.later hL)
    have L20 := hid (L15.out.trans hL)
    have S21 := hid hL.size
    clear O14 L15 hL
    go_wp2_with fail
    refine (eqIntS_any _ _ _ _ _ (O19.out.ints) (O18.out.ints)).mono ?_
    rintro e w22 ⟨rfl, hD⟩
    have hL := hD.later
    clear hD
    rw [eqL_self]
    have O23 := hid (O19.out.later hL)
    have O24 := hid (O18.out.later hL)
    have L25 := hid (L20.out.trans hL)
    have S26 := hid hL.size
    clear O19 O18 L20 hL
    clear O24
    go_wp2_with fail
    go_ret
    exact ⟨rfl, L25.out⟩
  · have hq0 : (1048576 : Int) < (z0.length : Int) := by omega
    go_enter Try.func5, Try.ntmps5
    go_wp2_with fail
    go_ret
    exact ⟨rfl, Later.refl w⟩
end Go.Proofs.Ytkpnckcfoigceab
