/- Four curvatures: list, FollowSwaps, SwapAt, ScaleOf (the program). -/
import Derived.Test.YtpkdikfjcbmcbabQdD
import Derived.Test.YtpkdikfjcbmcbabQdF
import Derived.Test.YtpkdikfjcbmcbabLayCloneI
namespace Go.Proofs.Ytpkdikfjcbmcbab
open Go.RowKit

set_option maxRecDepth 20000 in
set_option maxHeartbeats 2000000 in
theorem listQ_any (a b c d : Int) (w : World) :
    Calls Try.prog 39 #[.agg #[.int .i64 a, .int .i64 b, .int .i64 c, .int .i64 d]] w fun e w' => MadeInts w [a, b, c, d] e w' := by
  have HL := hid (Later.alloc w (.cells #[.int .i64 a, .int .i64 b, .int .i64 c, .int .i64 d] 48))
  have HB := hid (QBox.new w a b c d)
  go_enter Try.func39, Try.ntmps39
  go_wp2_with fail
  generalize w.alloc (.cells #[.int .i64 a, .int .i64 b, .int .i64 c, .int .i64 d] 48) = w1 at HL HB ⊢
  refine (Any.slices_Clone_int laysLays215 w.heap.size 0 4 4 [a, b, c, d] w1 (by simp) (by omega) (fun j hj => ?_)).mono ?_
  · rw [Nat.zero_add, (HB.out.at j (by simpa using hj)).1]
  rintro e w3 ⟨v3, rfl, ho, _, hb⟩
  have HL3 := hid (HL.out.trans hb)
  have HO : Hid (OwnInts w1.heap.size w3.heap.size w3 v3 [a, b, c, d]) := hid (OwnInts.ofH ho (by simp))
  clear hb ho
  go_wp2_with fail
  go_ret
  exact ⟨_, rfl, HO.out.wide HL.out.size (Nat.le_refl _), HL3.out⟩

end Go.Proofs.Ytpkdikfjcbmcbab
