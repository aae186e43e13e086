/- The walk of the law FnExactCircleText, over whatever contracts the model's and the program's functions have. -/
import Derived.Test.YtcilfeibpnijcaaDoorCtP
namespace Go.Proofs.YtcilfeibpnijcaaDoor
open Go.RowKit

set_option maxRecDepth 20000 in
set_option maxHeartbeats 2000000 in
theorem lawCircleText_gen (a b x y : Int) (o : Option (List UInt8))
    (hS : ∀ (w : World), Calls Tryd.prog 4 #[.agg #[.int .i64 a, .int .i64 b, .int .i64 x, .int .i64 y]] w fun e w' => StrAns w o e w')
    (hI : ∀ (w : World), TabHere w → Calls Tryd.prog 6 #[.agg #[.int .i64 a, .int .i64 b, .int .i64 x, .int .i64 y]] w fun e w' => StrAns w o e w')
    (w : World) (htab : TabHere w) :
    Calls Tryd.prog 3 #[.agg #[.int .i64 a, .int .i64 b, .int .i64 x, .int .i64 y]] w fun e w' => e = .returned (.bool true) ∧ Later w w' := by
  have HS := hid hS
  have HI := hid hI
  have HTB := hid htab
  clear hS hI htab
  have hne : (o.isSome != o.isSome) = false := by simp
  have HL := hid (Later.alloc w (.cells #[.int .i64 a, .int .i64 b, .int .i64 x, .int .i64 y] 23))
  have HC := hid (CBox.new w a b x y 23)
  go_enter Tryd.func3, Tryd.ntmps3
  go_wp2_with fail
  generalize w.alloc (.cells #[.int .i64 a, .int .i64 b, .int .i64 x, .int .i64 y] 23) = w1 at HL HC ⊢
  obtain ⟨c0, c1, c2, c3⟩ := HC.out
  refine (toCircle_any a b x y _).mono ?_
  rintro e w2 ⟨rfl, hL2⟩
  have HL2 := hid (HL.out.trans hL2)
  have HC2 := hid (HC.out.later hL2)
  clear hL2 c0 c1 c2 c3
  obtain ⟨c0, c1, c2, c3⟩ := HC2.out
  go_wp2_with fail
  refine (HS.out _).mono ?_
  rintro e w3 ⟨rfl, hL3⟩
  have HL3 := hid (HL2.out.trans hL3)
  have HC3 := hid (HC2.out.later hL3)
  clear hL3 c0 c1 c2 c3
  obtain ⟨c0, c1, c2, c3⟩ := HC3.out
  go_wp2_with fail
  refine (toCircle_any a b x y _).mono ?_
  rintro e w4 ⟨rfl, hL4⟩
  have HL4 := hid (HL3.out.trans hL4)
  have HC4 := hid (HC3.out.later hL4)
  clear hL4 c0 c1 c2 c3
  obtain ⟨c0, c1, c2, c3⟩ := HC4.out
  go_wp2_with fail
  refine (HI.out _ (HTB.out.later HL4.out)).mono ?_
  rintro e w5 ⟨rfl, hL5⟩
  have HL5 := hid (HL4.out.trans hL5)
  have HC5 := hid (HC4.out.later hL5)
  clear hL5 c0 c1 c2 c3
  obtain ⟨c0, c1, c2, c3⟩ := HC5.out
  go_wp2_with fail
  go_ret
  exact ⟨rfl, HL5.out⟩
end Go.Proofs.YtcilfeibpnijcaaDoor
