/- RiE, RiU: in one text. -/
import Derived.Test.YtdahhcigphhfdacRiQ
import Derived.Test.YtdahhcigphhfdacRiC
namespace Go.Proofs.Ytdahhcigphhfdac
open Go.RowKit


theorem specRightOfPair_any (m n : Int) (w : World) : Calls Try.prog 10 #[.int .i64 m, .int .i64 n] w fun e w' => IntsAns w (tripAns m n) e w' := by
  go_enter Try.func10, Try.ntmps10
  go_wp2_with (go_at_call 64; refine (riIf_any _ _ _).mono ?_; rintro e w1 ⟨v1, rfl, ho, hL⟩; have HO1 := hid ho; have HL1 := hid hL; clear ho hL)
  go_ret2
  exact ⟨_, rfl, HO1.out, HL1.out⟩
theorem tripV_form (m n : Int) : ∃ a ok, tripV m n = .tuple #[a, .bool ok] := by
  unfold tripV
  split
  · exact ⟨_, _, rfl⟩
  · exact ⟨_, _, rfl⟩
set_option maxHeartbeats 1000000 in
theorem implRightOfPair_any (m n : Int) (w : World) : Calls Try.prog 9 #[.int .i64 m, .int .i64 n] w fun e w' => IntsAns w (tripAns m n) e w' := by
  obtain ⟨a, ok, hv⟩ := tripV_form m n
  have HT := hid (fun w0 => triple_any m n w0)
  rw [hv] at HT
  have HS := hid (fun w0 => sidesOf_any m n w0 a ok hv)
  clear hv
  go_enter Try.func9, Try.ntmps9
  go_wp2_with fail
  refine (HT.out _).mono ?_
  rintro e w1 ⟨rfl, hL1⟩
  have HL1 := hid hL1
  clear hL1
  go_wp2_with fail
  refine (HS.out _).mono ?_
  rintro e w2 ⟨v2, rfl, ho, hL⟩
  have HO2 := hid ho
  have HL2 := hid (HL1.out.trans hL)
  clear ho hL
  go_wp2_with fail
  go_ret2
  exact ⟨_, rfl, HO2.out.wide HL1.out.size (Nat.le_refl _), HL2.out⟩

set_option maxRecDepth 20000 in
set_option maxHeartbeats 2000000 in
theorem implIsRight_any (v : Value) (zs : List Int) (w : World) (h : Ints w v zs) : Calls Try.prog 14 #[v] w fun e w' => BoolRes w (rightP zs).isSome e w' := by
  have HR := hid (rightTripleOf_any v zs w h)
  cases hr : rightP zs with
  | none =>
    rw [hr] at HR
    have HR2 := hid (show Calls Try.prog 65 #[v] _ fun e w' => e = .returned (.tuple #[.agg #[.int .i64 0, .int .i64 0, .int .i64 0, .int .i64 0, .int .i64 0], .bool false]) ∧ Later _ w' from HR.out)
    clear hr HR h
    go_enter Try.func14, Try.ntmps14
    go_wp2_with fail
    refine HR2.out.mono ?_
    rintro e w2 ⟨rfl, hL2⟩
    have HL3 := hid (hL2.trans (Later.alloc w2 (.cells #[.int .i64 0, .int .i64 0, .int .i64 0, .int .i64 0, .int .i64 0] 69)))
    clear hL2
    go_wp2_with fail
    go_ret
    exact ⟨rfl, HL3.out⟩
  | some p =>
    obtain ⟨m, n⟩ := p
    rw [hr] at HR
    have HR2 := hid (show Calls Try.prog 65 #[v] _ fun e w' => e = .returned (.tuple #[.agg #[.int .i64 m, .int .i64 n, .int .i64 (m * m - n * n), .int .i64 (2 * m * n), .int .i64 (m * m + n * n)], .bool true]) ∧ Later _ w' from HR.out)
    clear hr HR h
    go_enter Try.func14, Try.ntmps14
    go_wp2_with fail
    refine HR2.out.mono ?_
    rintro e w2 ⟨rfl, hL2⟩
    have HL3 := hid (hL2.trans (Later.alloc w2 (.cells #[.int .i64 m, .int .i64 n, .int .i64 (m * m - n * n), .int .i64 (2 * m * n), .int .i64 (m * m + n * n)] 69)))
    clear hL2
    go_wp2_with fail
    go_ret
    exact ⟨rfl, HL3.out⟩

set_option maxRecDepth 20000 in
set_option maxHeartbeats 2000000 in
theorem implPairOfRight_any (v : Value) (zs : List Int) (w : World) (h : Ints w v zs) : Calls Try.prog 12 #[v] w fun e w' => PairAns w (rightP zs) e w' := by
  have HR := hid (rightTripleOf_any v zs w h)
  cases hr : rightP zs with
  | none =>
    rw [hr] at HR
    have HR2 := hid (show Calls Try.prog 65 #[v] _ fun e w' => e = .returned (.tuple #[.agg #[.int .i64 0, .int .i64 0, .int .i64 0, .int .i64 0, .int .i64 0], .bool false]) ∧ Later _ w' from HR.out)
    clear hr HR h
    go_enter Try.func12, Try.ntmps12
    go_wp2_with fail
    refine HR2.out.mono ?_
    rintro e w2 ⟨rfl, hL2⟩
    have HL3 := hid (hL2.trans (Later.alloc w2 (.cells #[.int .i64 0, .int .i64 0, .int .i64 0, .int .i64 0, .int .i64 0] 69)))
    obtain ⟨c0, c1, _, _, _⟩ := arr5_alloc w2 (.int .i64 0) (.int .i64 0) (.int .i64 0) (.int .i64 0) (.int .i64 0) 69
    clear hL2
    go_wp2_with fail
    generalize w2.alloc _ = w3 at c0 c1 HL3 ⊢
    go_quiet (fail)
    go_wp2_with fail
    go_ret3
    exact ⟨rfl, HL3.out.trans (Later.drewN _ _)⟩
  | some p =>
    obtain ⟨m, n⟩ := p
    rw [hr] at HR
    have HR2 := hid (show Calls Try.prog 65 #[v] _ fun e w' => e = .returned (.tuple #[.agg #[.int .i64 m, .int .i64 n, .int .i64 (m * m - n * n), .int .i64 (2 * m * n), .int .i64 (m * m + n * n)], .bool true]) ∧ Later _ w' from HR.out)
    clear hr HR h
    go_enter Try.func12, Try.ntmps12
    go_wp2_with fail
    refine HR2.out.mono ?_
    rintro e w2 ⟨rfl, hL2⟩
    have HL3 := hid (hL2.trans (Later.alloc w2 (.cells #[.int .i64 m, .int .i64 n, .int .i64 (m * m - n * n), .int .i64 (2 * m * n), .int .i64 (m * m + n * n)] 69)))
    obtain ⟨c0, c1, _, _, _⟩ := arr5_alloc w2 (.int .i64 m) (.int .i64 n) (.int .i64 (m * m - n * n)) (.int .i64 (2 * m * n)) (.int .i64 (m * m + n * n)) 69
    clear hL2
    go_wp2_with fail
    generalize w2.alloc _ = w3 at c0 c1 HL3 ⊢
    go_quiet (fail)
    go_wp2_with fail
    go_ret3
    exact ⟨rfl, HL3.out.trans (Later.drewN _ _)⟩


def innerAns (zs : List Int) : Option Int := (rightP zs).map fun _ => (zs.getD 0 0 + zs.getD 1 0 - zs.getD 2 0) / 2
theorem inner_bd {x y z m n : Int} (h : rightP [x, y, z] = some (m, n)) : 1 ≤ x ∧ x ≤ 1000000000 ∧ 1 ≤ y ∧ y ≤ 1000000000 ∧ 1 ≤ z ∧ z ≤ 1000000000 ∧ 0 ≤ x + y - z := by
  obtain ⟨hp, hc, hxz, hx, hy, hz⟩ := right_bounds h
  have h1 := hp.h1
  have h2 := hp.h2
  obtain ⟨p1, p2, p3, p4, p5, p6, p7⟩ := hp.prods
  have p8 : n * n ≤ m * n := by have := Int.mul_le_mul_of_nonneg_right (show n ≤ m by omega) (show 0 ≤ n by omega); exact this
  simp only [List.all_cons, List.all_nil, Bool.and_true, within, Bool.and_eq_true, decide_eq_true_eq] at hc
  omega

theorem implIsRight_as (v : Value) (zs : List Int) (b : Bool) (hb : (rightP zs).isSome = b) (w : World) (h : Ints w v zs) :
    Calls Try.prog 14 #[v] w fun e w' => e = .returned (.bool b) ∧ Later w w' := by subst hb; exact implIsRight_any v zs w h

set_option maxHeartbeats 2000000 in
theorem implInnerRadius_any (v : Value) (zs : List Int) (w : World) (h : Ints w v zs) :
    Calls Try.prog 13 #[v] w fun e w' => NumAns w (innerAns zs) e w' := by
  cases hr : rightP zs with
  | none =>
    have HG := hid (implIsRight_as v zs false (by rw [hr]; rfl) w h)
    have HA := hid (show innerAns zs = none by unfold innerAns; rw [hr]; rfl)
    clear hr h
    go_enter Try.func13, Try.ntmps13
    go_wp2_with (go_at_call 14; refine HG.out.mono ?_; rintro e w1 ⟨rfl, hL⟩; have HL1 := hid hL; clear hL)
    go_ret2
    exact ⟨by rw [HA.out]; rfl, HL1.out⟩
  | some p =>
    obtain ⟨m, n⟩ := p
    have HG := hid (implIsRight_as v zs true (by rw [hr]; rfl) w h)
    obtain ⟨_, hzs⟩ := right_some hr
    obtain ⟨x, y, z, ad, cap, ez, rfl, c0, c1, c2⟩ := h.threeR (by rw [hzs]; rfl)
    subst ez
    have HA := hid (show innerAns [x, y, z] = some ((x + y - z) / 2) by unfold innerAns; rw [hr]; rfl)
    obtain ⟨b1, b2, b3, b4, b5, b6, b7⟩ := inner_bd hr
    have w1 : IntKind.i64.wrap (x + y) = x + y := by rw [IntWalk.i64_left]; exact IntWalk.wrap64_in _ (by omega)
    have w2 : IntKind.i64.wrap (x + y - z) = x + y - z := by rw [IntWalk.i64_left]; exact IntWalk.wrap64_in _ (by omega)
    obtain ⟨q, hq⟩ : ∃ q, (x + y - z) / 2 = q := ⟨_, rfl⟩
    have w3 : (x + y - z).tdiv 2 = q := by rw [Int.tdiv_eq_ediv_of_nonneg b7]; exact hq
    have w4 : IntKind.i64.wrap q = q := by rw [IntWalk.i64_left]; exact IntWalk.wrap64_in _ (by omega)
    rw [hq] at HA
    clear hr h hzs hq
    go_enter Try.func13, Try.ntmps13
    go_wp2_with (go_at_call 14; refine HG.out.mono ?_; rintro e w1 ⟨rfl, hL⟩; have HL1 := hid hL; replace c0 := hL.cell c0; replace c1 := hL.cell c1; replace c2 := hL.cell c2; clear hL)
    go_quiet (fail)
    go_wp2_with fail
    go_ret2
    exact ⟨by rw [HA.out]; rfl, HL1.out.trans (Later.drewN _ _)⟩
end Go.Proofs.Ytdahhcigphhfdac
