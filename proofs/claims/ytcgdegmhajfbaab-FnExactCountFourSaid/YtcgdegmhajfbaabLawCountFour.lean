/- The walk of the law FnExactCountFour, over whatever contracts the model's and the program's functions have. -/
import Derived.Test.YtcgdegmhajfbaabAns
import Derived.Deep.RegionHeld3
import Derived.Deep.DeepCutAuto
namespace Go.Proofs.Ytcgdegmhajfbaab
open Go.RowKit

set_option maxRecDepth 20000 in
set_option maxHeartbeats 4000000 in
theorem lawCountFour_gen (x0 : Int) (o : Option Int)
    (hS : ∀ (w : World), Calls Try.prog 28 #[.int .i64 x0] w fun e w' => NumAns w o e w')
    (hI : ∀ (w : World), Calls Try.prog 29 #[.int .i64 x0] w fun e w' => NumAns w o e w')
    (w : World)  :
    Calls Try.prog 9 #[.int .i64 x0] w fun e w' => e = .returned (.bool true) ∧ Later w w' := by
  have HS := hid hS
  have HI := hid hI
  clear hS hI
  go_enter Try.func9, Try.ntmps9
  go_wp2_with fail
  refine (HS.out _ ).mono ?_
  rintro e w1 ⟨rfl, hL⟩
  have L2 := hid (hL)
  have S3 := hid hL.size
  clear hL
  go_wp2_with fail
  refine (HI.out _ ).mono ?_
  rintro e w4 ⟨rfl, hL⟩
  have L5 := hid (L2.out.trans hL)
  have S6 := hid hL.size
  clear L2 hL
  have hne0 : ((o.getD 0) != (o.getD 0)) = false := by simp
  have hne1 : ((o.isSome) != (o.isSome)) = false := by simp
  go_wp2_with fail
  go_ret
  exact ⟨rfl, L5.out⟩
end Go.Proofs.Ytcgdegmhajfbaab
