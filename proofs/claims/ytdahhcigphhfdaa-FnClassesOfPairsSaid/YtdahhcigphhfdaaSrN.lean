/- Go's sort of a row of numbers and its Compact at nil. -/
import Derived.Test.YtdahhcigphhfdaaMpO
import Derived.Shelf.Small.Bits
namespace Go.Proofs.Ytdahhcigphhfdaa
open Go.RowKit
open Go.Shelf

set_option maxHeartbeats 2000000 in
theorem insSortNil_any (w : World) :
    Calls Try.prog 160 #[.slice none 0 0, .int .i64 0, .int .i64 0] w fun e w' => e = .returned (.tuple #[]) ∧ w = w' := by
  go_enter Try.func160, Try.ntmps160
  go_wp2
  refine wp_loop_rounds 1 ?_
  rw [rounds_succ]
  go_wp2
  refine bodyPost_end (v := .tuple #[]) ?_ rfl ⟨rfl, rfl⟩
  simp [results, Try.results160, go_sem]
set_option maxHeartbeats 2000000 in
theorem pdqNil_any (lim : Int) (w : World) :
    Calls Try.prog 138 #[.slice none 0 0, .int .i64 0, .int .i64 0, .int .i64 lim] w fun e w' => e = .returned (.tuple #[]) ∧ w = w' := by
  go_enter Try.func138, Try.ntmps138
  go_wp2
  refine wp_loop_rounds 1 ?_
  rw [rounds_succ]
  go_wp2_with (go_at_call 160; refine (insSortNil_any _).mono ?_; rintro e w2 ⟨rfl, rfl⟩)
  (try simp only [Exit.inBlock, Exit.then])
  refine bodyPost_ret (v := .tuple #[]) ?_ rfl ⟨rfl, rfl⟩
  simp [results, Try.results138, go_sem]
theorem bitsLen0_any (w : World) : Calls Try.prog 139 #[.int .u64 0] w fun e w' => e = .returned (.int .i64 0) ∧ w = w' :=
  (Any.bits_Len ({ laysLays189 with } : Lays.n125 Try.prog laysLays189_ren) 0 w (by omega) (by omega)).mono fun _ _ h => ⟨h.1, h.2.symm⟩
set_option maxHeartbeats 2000000 in
theorem sortNil_any (w : World) :
    Calls Try.prog 80 #[.slice none 0 0] w fun e w' => e = .returned (.tuple #[]) ∧ w = w' := by
  go_enter Try.func80, Try.ntmps80
  go_wp2_with (first | (go_at_call 139; refine (bitsLen0_any _).mono ?_; rintro e w2 ⟨rfl, rfl⟩) | (go_at_call 138; refine (pdqNil_any _ _).mono ?_; rintro e w3 ⟨rfl, rfl⟩))
  refine bodyPost_end (v := .tuple #[]) ?_ rfl ⟨rfl, rfl⟩
  simp [results, Try.results80, go_sem]
theorem compactNil_any (w : World) :
    Calls Try.prog 81 #[.slice none 0 0] w fun e w' => e = .returned (.slice none 0 0) ∧ w = w' := by
  go_enter Try.func81, Try.ntmps81
  go_wp2_with fail
  go_ret
  exact ⟨rfl, rfl⟩
end Go.Proofs.Ytdahhcigphhfdaa
