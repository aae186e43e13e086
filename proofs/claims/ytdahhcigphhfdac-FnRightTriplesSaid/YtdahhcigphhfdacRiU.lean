/- Right triples: the inner radius. -/
import Derived.Test.YtdahhcigphhfdacRiE
namespace Go.Proofs.Ytdahhcigphhfdac
open Go.RowKit

def innerAns (zs : List Int) : Option Int := (rightP zs).map fun _ => (zs.getD 0 0 + zs.getD 1 0 - zs.getD 2 0) / 2
theorem inner_bd {x y z m n : Int} (h : rightP [x, y, z] = some (m, n)) : 1 ≤ x ∧ x ≤ 1000000000 ∧ 1 ≤ y ∧ y ≤ 1000000000 ∧ 1 ≤ z ∧ z ≤ 1000000000 ∧ 0 ≤ x + y - z := by
  obtain ⟨hp, hc, hxz, hx, hy, hz⟩ := right_bounds h
  have h1 := hp.h1
  have h2 := hp.h2
  obtain ⟨p1, p2, p3, p4, p5, p6, p7⟩ := hp.prods
  have p8 : n * n ≤ m * n := by have := Int.mul_le_mul_of_nonneg_right (show n ≤ m by omega) (show 0 ≤ n by omega); exact this
  simp only [List.all_cons, List.all_nil, Bool.and_true, within, Bool.and_eq_true, decide_eq_true_eq] at hc
  omega

theorem implIsRight_as (v : Value) (zs : List Int) (b : Bool) (hb : (rightP zs).isSome = b) (w : World) (h : Ints w v zs) :
    Calls Try.prog 14 #[v] w fun e w' => e = .returned (.bool b) ∧ Later w w' := by subst hb; exact implIsRight_any v zs w h

set_option maxHeartbeats 2000000 in
theorem implInnerRadius_any (v : Value) (zs : List Int) (w : World) (h : Ints w v zs) :
    Calls Try.prog 13 #[v] w fun e w' => NumAns w (innerAns zs) e w' := by
  cases hr : rightP zs with
  | none =>
    have HG := hid (implIsRight_as v zs false (by rw [hr]; rfl) w h)
    have HA := hid (show innerAns zs = none by unfold innerAns; rw [hr]; rfl)
    clear hr h
    go_enter Try.func13, Try.ntmps13
    go_wp2_with (go_at_call 14; refine HG.out.mono ?_; rintro e w1 ⟨rfl, hL⟩; have HL1 := hid hL; clear hL)
    go_ret2
    exact ⟨by rw [HA.out]; rfl, HL1.out⟩
  | some p =>
    obtain ⟨m, n⟩ := p
    have HG := hid (implIsRight_as v zs true (by rw [hr]; rfl) w h)
    obtain ⟨_, hzs⟩ := right_some hr
    obtain ⟨x, y, z, ad, cap, ez, rfl, c0, c1, c2⟩ := h.threeR (by rw [hzs]; rfl)
    subst ez
    have HA := hid (show innerAns [x, y, z] = some ((x + y - z) / 2) by unfold innerAns; rw [hr]; rfl)
    obtain ⟨b1, b2, b3, b4, b5, b6, b7⟩ := inner_bd hr
    have w1 : IntKind.i64.wrap (x + y) = x + y := by rw [IntWalk.i64_left]; exact IntWalk.wrap64_in _ (by omega)
    have w2 : IntKind.i64.wrap (x + y - z) = x + y - z := by rw [IntWalk.i64_left]; exact IntWalk.wrap64_in _ (by omega)
    obtain ⟨q, hq⟩ : ∃ q, (x + y - z) / 2 = q := ⟨_, rfl⟩
    have w3 : (x + y - z).tdiv 2 = q := by rw [Int.tdiv_eq_ediv_of_nonneg b7]; exact hq
    have w4 : IntKind.i64.wrap q = q := by rw [IntWalk.i64_left]; exact IntWalk.wrap64_in _ (by omega)
    rw [hq] at HA
    clear hr h hzs hq
    go_enter Try.func13, Try.ntmps13
    go_wp2_with (go_at_call 14; refine HG.out.mono ?_; rintro e w1 ⟨rfl, hL⟩; have HL1 := hid hL; replace c0 := hL.cell c0; replace c1 := hL.cell c1; replace c2 := hL.cell c2; clear hL)
    go_quiet (fail)
    go_wp2_with fail
    go_ret2
    exact ⟨by rw [HA.out]; rfl, HL1.out.trans (Later.drewN _ _)⟩
end Go.Proofs.Ytdahhcigphhfdac
