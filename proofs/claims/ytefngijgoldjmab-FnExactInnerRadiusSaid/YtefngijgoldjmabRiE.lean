/- Right triples in the program: IsRight, RightOfPair, PairOfRight. -/
import Derived.Test.YtefngijgoldjmabRiQ
import Derived.Test.YtefngijgoldjmabRiC
namespace Go.Proofs.Ytefngijgoldjmab
open Go.RowKit

theorem tripV_form (m n : Int) : ∃ a ok, tripV m n = .tuple #[a, .bool ok] := by
  unfold tripV
  split
  · exact ⟨_, _, rfl⟩
  · exact ⟨_, _, rfl⟩
set_option maxRecDepth 20000 in
set_option maxHeartbeats 2000000 in
theorem implIsRight_any (v : Value) (zs : List Int) (w : World) (h : Ints w v zs) : Calls Try.prog 50 #[v] w fun e w' => BoolRes w (rightP zs).isSome e w' := by
  have HR := hid (rightTripleOf_any v zs w h)
  cases hr : rightP zs with
  | none =>
    rw [hr] at HR
    have HR2 := hid (show Calls Try.prog 87 #[v] _ fun e w' => e = .returned (.tuple #[.agg #[.int .i64 0, .int .i64 0, .int .i64 0, .int .i64 0, .int .i64 0], .bool false]) ∧ Later _ w' from HR.out)
    clear hr HR h
    go_enter Try.func50, Try.ntmps50
    go_wp2_with fail
    refine HR2.out.mono ?_
    rintro e w2 ⟨rfl, hL2⟩
    have HL3 := hid (hL2.trans (Later.alloc w2 (.cells #[.int .i64 0, .int .i64 0, .int .i64 0, .int .i64 0, .int .i64 0] 81)))
    clear hL2
    go_wp2_with fail
    go_ret
    exact ⟨rfl, HL3.out⟩
  | some p =>
    obtain ⟨m, n⟩ := p
    rw [hr] at HR
    have HR2 := hid (show Calls Try.prog 87 #[v] _ fun e w' => e = .returned (.tuple #[.agg #[.int .i64 m, .int .i64 n, .int .i64 (m * m - n * n), .int .i64 (2 * m * n), .int .i64 (m * m + n * n)], .bool true]) ∧ Later _ w' from HR.out)
    clear hr HR h
    go_enter Try.func50, Try.ntmps50
    go_wp2_with fail
    refine HR2.out.mono ?_
    rintro e w2 ⟨rfl, hL2⟩
    have HL3 := hid (hL2.trans (Later.alloc w2 (.cells #[.int .i64 m, .int .i64 n, .int .i64 (m * m - n * n), .int .i64 (2 * m * n), .int .i64 (m * m + n * n)] 81)))
    clear hL2
    go_wp2_with fail
    go_ret
    exact ⟨rfl, HL3.out⟩

end Go.Proofs.Ytefngijgoldjmab
