/- The walk of the law FnExactNumberOfWord, over whatever contracts the model's and the program's functions have. -/
import Derived.Test.YtmmapfdmdliifaaDoorAns4
namespace Go.Proofs.YtmmapfdmdliifaaDoor
open Go.RowKit

set_option maxRecDepth 20000 in
set_option maxHeartbeats 4000000 in
theorem lawNumberOfWord_gen (s0 : ByteArray) (o : Option Int)
    (hS : ∀ (w : World), s0.size ≤ 1048576 → Calls Tryd.prog 37 #[.string s0] w fun e w' => NumAns w o e w')
    (hI : ∀ (w : World), s0.size ≤ 1048576 → Calls Tryd.prog 38 #[.string s0] w fun e w' => NumAns w o e w')
    (w : World) :
    Calls Tryd.prog 12 #[.string s0] w fun e w' => e = .returned (.bool true) ∧ Later w w' := by
  have HS := hid hS
  have HI := hid hI
  clear hS hI
  by_cases hz0 : s0.size ≤ 1048576
  · have hq0 : ¬ (1048576 : Int) < (s0.size : Int) := by omega
    have HN0 := hid hz0
    go_enter Tryd.func12, Tryd.ntmps12
    go_wp2_with fail
    refine (HS.out _ HN0.out).mono ?_
    rintro e w1 ⟨rfl, hL⟩
    have L2 := hid hL
    clear hL
    go_wp2_with fail
    refine (HI.out _ HN0.out).mono ?_
    rintro e w4 ⟨rfl, hL⟩
    have L5 := hid (L2.out.trans hL)
    clear L2 hL
    have hne0 : ((o.getD 0) != (o.getD 0)) = false := by simp
    have hne1 : ((o.isSome) != (o.isSome)) = false := by simp
    go_wp2_with fail
    go_ret
    exact ⟨rfl, L5.out⟩
  · have hq0 : (1048576 : Int) < (s0.size : Int) := by omega
    go_enter Tryd.func12, Tryd.ntmps12
    go_wp2_with fail
    go_ret
    exact ⟨rfl, Later.refl w⟩
end Go.Proofs.YtmmapfdmdliifaaDoor
