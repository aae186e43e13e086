/- Right triples in the program: IsRight, RightOfPair, PairOfRight. -/
import Derived.Test.YtdahhcigphhfdacRiQ
import Derived.Test.YtdahhcigphhfdacRiC
namespace Go.Proofs.Ytdahhcigphhfdac
open Go.RowKit

theorem specRightOfPair_any (m n : Int) (w : World) : Calls Try.prog 10 #[.int .i64 m, .int .i64 n] w fun e w' => IntsAns w (tripAns m n) e w' := by
  go_enter Try.func10, Try.ntmps10
  go_wp2_with (go_at_call 64; refine (riIf_any _ _ _).mono ?_; rintro e w1 ⟨v1, rfl, ho, hL⟩; have HO1 := hid ho; have HL1 := hid hL; clear ho hL)
  go_ret2
  exact ⟨_, rfl, HO1.out, HL1.out⟩
theorem tripV_form (m n : Int) : ∃ a ok, tripV m n = .tuple #[a, .bool ok] := by
  unfold tripV
  split
  · exact ⟨_, _, rfl⟩
  · exact ⟨_, _, rfl⟩
set_option maxHeartbeats 1000000 in
theorem implRightOfPair_any (m n : Int) (w : World) : Calls Try.prog 9 #[.int .i64 m, .int .i64 n] w fun e w' => IntsAns w (tripAns m n) e w' := by
  obtain ⟨a, ok, hv⟩ := tripV_form m n
  have HT := hid (fun w0 => triple_any m n w0)
  rw [hv] at HT
  have HS := hid (fun w0 => sidesOf_any m n w0 a ok hv)
  clear hv
  go_enter Try.func9, Try.ntmps9
  go_wp2_with fail
  refine (HT.out _).mono ?_
  rintro e w1 ⟨rfl, hL1⟩
  have HL1 := hid hL1
  clear hL1
  go_wp2_with fail
  refine (HS.out _).mono ?_
  rintro e w2 ⟨v2, rfl, ho, hL⟩
  have HO2 := hid ho
  have HL2 := hid (HL1.out.trans hL)
  clear ho hL
  go_wp2_with fail
  go_ret2
  exact ⟨_, rfl, HO2.out.wide HL1.out.size (Nat.le_refl _), HL2.out⟩

set_option maxRecDepth 20000 in
set_option maxHeartbeats 2000000 in
theorem implIsRight_any (v : Value) (zs : List Int) (w : World) (h : Ints w v zs) : Calls Try.prog 14 #[v] w fun e w' => BoolRes w (rightP zs).isSome e w' := by
  have HR := hid (rightTripleOf_any v zs w h)
  cases hr : rightP zs with
  | none =>
    rw [hr] at HR
    have HR2 := hid (show Calls Try.prog 65 #[v] _ fun e w' => e = .returned (.tuple #[.agg #[.int .i64 0, .int .i64 0, .int .i64 0, .int .i64 0, .int .i64 0], .bool false]) ∧ Later _ w' from HR.out)
    clear hr HR h
    go_enter Try.func14, Try.ntmps14
    go_wp2_with fail
    refine HR2.out.mono ?_
    rintro e w2 ⟨rfl, hL2⟩
    have HL3 := hid (hL2.trans (Later.alloc w2 (.cells #[.int .i64 0, .int .i64 0, .int .i64 0, .int .i64 0, .int .i64 0] 69)))
    clear hL2
    go_wp2_with fail
    go_ret
    exact ⟨rfl, HL3.out⟩
  | some p =>
    obtain ⟨m, n⟩ := p
    rw [hr] at HR
    have HR2 := hid (show Calls Try.prog 65 #[v] _ fun e w' => e = .returned (.tuple #[.agg #[.int .i64 m, .int .i64 n, .int .i64 (m * m - n * n), .int .i64 (2 * m * n), .int .i64 (m * m + n * n)], .bool true]) ∧ Later _ w' from HR.out)
    clear hr HR h
    go_enter Try.func14, Try.ntmps14
    go_wp2_with fail
    refine HR2.out.mono ?_
    rintro e w2 ⟨rfl, hL2⟩
    have HL3 := hid (hL2.trans (Later.alloc w2 (.cells #[.int .i64 m, .int .i64 n, .int .i64 (m * m - n * n), .int .i64 (2 * m * n), .int .i64 (m * m + n * n)] 69)))
    clear hL2
    go_wp2_with fail
    go_ret
    exact ⟨rfl, HL3.out⟩

set_option maxRecDepth 20000 in
set_option maxHeartbeats 2000000 in
theorem implPairOfRight_any (v : Value) (zs : List Int) (w : World) (h : Ints w v zs) : Calls Try.prog 12 #[v] w fun e w' => PairAns w (rightP zs) e w' := by
  have HR := hid (rightTripleOf_any v zs w h)
  cases hr : rightP zs with
  | none =>
    rw [hr] at HR
    have HR2 := hid (show Calls Try.prog 65 #[v] _ fun e w' => e = .returned (.tuple #[.agg #[.int .i64 0, .int .i64 0, .int .i64 0, .int .i64 0, .int .i64 0], .bool false]) ∧ Later _ w' from HR.out)
    clear hr HR h
    go_enter Try.func12, Try.ntmps12
    go_wp2_with fail
    refine HR2.out.mono ?_
    rintro e w2 ⟨rfl, hL2⟩
    have HL3 := hid (hL2.trans (Later.alloc w2 (.cells #[.int .i64 0, .int .i64 0, .int .i64 0, .int .i64 0, .int .i64 0] 69)))
    obtain ⟨c0, c1, _, _, _⟩ := arr5_alloc w2 (.int .i64 0) (.int .i64 0) (.int .i64 0) (.int .i64 0) (.int .i64 0) 69
    clear hL2
    go_wp2_with fail
    generalize w2.alloc _ = w3 at c0 c1 HL3 ⊢
    go_quiet (fail)
    go_wp2_with fail
    go_ret3
    exact ⟨rfl, HL3.out.trans (Later.drewN _ _)⟩
  | some p =>
    obtain ⟨m, n⟩ := p
    rw [hr] at HR
    have HR2 := hid (show Calls Try.prog 65 #[v] _ fun e w' => e = .returned (.tuple #[.agg #[.int .i64 m, .int .i64 n, .int .i64 (m * m - n * n), .int .i64 (2 * m * n), .int .i64 (m * m + n * n)], .bool true]) ∧ Later _ w' from HR.out)
    clear hr HR h
    go_enter Try.func12, Try.ntmps12
    go_wp2_with fail
    refine HR2.out.mono ?_
    rintro e w2 ⟨rfl, hL2⟩
    have HL3 := hid (hL2.trans (Later.alloc w2 (.cells #[.int .i64 m, .int .i64 n, .int .i64 (m * m - n * n), .int .i64 (2 * m * n), .int .i64 (m * m + n * n)] 69)))
    obtain ⟨c0, c1, _, _, _⟩ := arr5_alloc w2 (.int .i64 m) (.int .i64 n) (.int .i64 (m * m - n * n)) (.int .i64 (2 * m * n)) (.int .i64 (m * m + n * n)) 69
    clear hL2
    go_wp2_with fail
    generalize w2.alloc _ = w3 at c0 c1 HL3 ⊢
    go_quiet (fail)
    go_wp2_with fail
    go_ret3
    exact ⟨rfl, HL3.out.trans (Later.drewN _ _)⟩
end Go.Proofs.Ytdahhcigphhfdac
