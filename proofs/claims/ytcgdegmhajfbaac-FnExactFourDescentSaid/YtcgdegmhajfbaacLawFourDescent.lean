/- The walk of the law FnExactFourDescent, over whatever contracts the model's and the program's functions have. -/
import Derived.Test.YtcgdegmhajfbaacAns2
import Derived.Deep.RegionHeld3
import Derived.Deep.DeepCutAuto
namespace Go.Proofs.Ytcgdegmhajfbaac
open Go.RowKit

set_option maxRecDepth 20000 in
set_option maxHeartbeats 4000000 in
theorem lawFourDescent_gen (x0 : Int) (o : Option (List (List Int))) (hob : off (o.getD []) (o.getD []).length ≤ 1000000000000)
    (hS : ∀ (w : World), Calls Try.prog 12 #[.int .i64 x0] w fun e w' => RowsAns w o e w')
    (hI : ∀ (w : World), Calls Try.prog 13 #[.int .i64 x0] w fun e w' => RowsAns w o e w')
    (w : World)  :
    Calls Try.prog 4 #[.int .i64 x0] w fun e w' => e = .returned (.bool true) ∧ Later w w' := by
  have HS := hid hS
  have HI := hid hI
  clear hS hI
  go_enter Try.func4, Try.ntmps4
  go_wp2_with fail
  refine (HS.out _ ).mono ?_
  rintro e w1 ⟨y1, rfl, hown, hL⟩
  obtain ⟨a1, cap1, rfl, _⟩ := hown.shape
  have O2 := hid hown
  clear hown
  have L3 := hid (hL)
  have S4 := hid hL.size
  clear hL
  go_wp2_with fail
  refine (HI.out _ ).mono ?_
  rintro e w5 ⟨y5, rfl, hown, hL⟩
  obtain ⟨a5, cap5, rfl, _⟩ := hown.shape
  have O6 := hid hown
  clear hown
  have O7 := hid (O2.out.later hL)
  have L8 := hid (L3.out.trans hL)
  have S9 := hid hL.size
  clear O2 L3 hL
  have hne0 : ((o.isSome) != (o.isSome)) = false := by simp
  go_wp2_with fail
  refine (eqIntSS_any _ _ _ _ _ (O6.out.rows) (O7.out.rows)).mono ?_
  rintro e w10 ⟨rfl, hD⟩
  have hL := hD.later
  clear hD
  rw [eqLL_self]
  have O11 := hid (O7.out.later hL)
  have O12 := hid (O6.out.later hL)
  have L13 := hid (L8.out.trans hL)
  have S14 := hid hL.size
  clear O7 O6 L8 hL
  go_wp2_with fail
  have hmm : (((1 : Int) + (off (o.getD []) (o.getD []).length : Int)) != ((1 : Int) + (off (o.getD []) (o.getD []).length : Int))) = false := by simp
  have hmn : ¬ (1 : Int) + (off (o.getD []) (o.getD []).length : Int) < 0 := by omega
  refine (markIntSS_any w1.heap.size (w5.heap.size) _ _ _ _ ⟨by omega, by omega⟩ O12.out).mono ?_
  rintro e w15 ⟨rfl, hown, hW⟩
  have hL := Later.refl w10
  have O16 := hid ((O11.out.later hL).keep fun b h1 h2 => hW.block b (by have := S4.out; have := S9.out; have := S14.out; omega))
  clear O11
  have O17 := hid hown
  clear hown O12
  have L18 := hid (show Later w w15 from Wrote.below (L13.out.trans hL) hW (fun b hb => by have := S4.out; have := S9.out; have := S14.out; omega))
  clear L13
  have S19 := hid (show w10.heap.size ≤ w15.heap.size by have := hL.size; have := hW.size; omega)
  clear hL hW
  go_wp2_with fail
  refine (heldIntSS_any _ (o.getD []) _ _ ⟨by omega, by omega⟩ O17.out.rows).mono ?_
  rintro e w20 ⟨rfl, rfl⟩
  go_wp2_with fail
  refine (HI.out _ ).mono ?_
  rintro e w21 ⟨y21, rfl, hown, hL⟩
  obtain ⟨a21, cap21, rfl, _⟩ := hown.shape
  have O22 := hid hown
  clear hown
  have O23 := hid (O16.out.later hL)
  have O24 := hid (O17.out.later hL)
  have L25 := hid (L18.out.trans hL)
  have S26 := hid hL.size
  clear O16 O17 L18 hL
  go_wp2_with fail
  refine (eqIntSS_any _ _ _ _ _ (O22.out.rows) (O23.out.rows)).mono ?_
  rintro e w27 ⟨rfl, hD⟩
  have hL := hD.later
  clear hD
  rw [eqLL_self]
  have O28 := hid (O23.out.later hL)
  have O29 := hid (O24.out.later hL)
  have O30 := hid (O22.out.later hL)
  have L31 := hid (L25.out.trans hL)
  have S32 := hid hL.size
  clear O23 O24 O22 L25 hL
  go_wp2_with fail
  refine (heldIntSS_any _ (o.getD []) _ _ ⟨by omega, by omega⟩ O29.out.rows).mono ?_
  rintro e w33 ⟨rfl, rfl⟩
  go_wp2_with fail
  go_ret
  exact ⟨rfl, L31.out⟩
end Go.Proofs.Ytcgdegmhajfbaac
