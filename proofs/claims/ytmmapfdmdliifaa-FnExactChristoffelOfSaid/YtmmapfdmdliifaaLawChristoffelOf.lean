/- The walk of the law FnExactChristoffelOf, over whatever contracts the model's and the program's functions have. -/
import Derived.Test.YtmmapfdmdliifaaAns4
namespace Go.Proofs.Ytmmapfdmdliifaa
open Go.RowKit

set_option maxRecDepth 20000 in
set_option maxHeartbeats 4000000 in
theorem lawChristoffelOf_gen (x0 : Int) (x1 : Int) (o : Option (List UInt8))
    (hS : ∀ (w : World), Calls Try.prog 4 #[.int .i64 x0, .int .i64 x1] w fun e w' => StrAns w o e w')
    (hI : ∀ (w : World), Calls Try.prog 5 #[.int .i64 x0, .int .i64 x1] w fun e w' => StrAns w o e w')
    (w : World) :
    Calls Try.prog 3 #[.int .i64 x0, .int .i64 x1] w fun e w' => e = .returned (.bool true) ∧ Later w w' := by
  have HS := hid hS
  have HI := hid hI
  clear hS hI
  go_enter Try.func3, Try.ntmps3
  go_wp2_with fail
  refine (HS.out _ ).mono ?_
  rintro e w1 ⟨rfl, hL⟩
  have L2 := hid hL
  clear hL
  go_wp2_with fail
  refine (HI.out _ ).mono ?_
  rintro e w4 ⟨rfl, hL⟩
  have L5 := hid (L2.out.trans hL)
  clear L2 hL
  have hne0 : ((o.isSome) != (o.isSome)) = false := by simp
  go_wp2_with fail
  go_ret
  exact ⟨rfl, L5.out⟩
end Go.Proofs.Ytmmapfdmdliifaa
