/- Jumping roots: what the model asks of k, c and pairs; its jump down. -/
import Derived.Test.YtdngocjhblpkkacJp
import Derived.Deep.RegionHeld3
import Derived.OwnWalk
namespace Go.Proofs.Ytdngocjhblpkkac
open Go.RowKit

theorem juW_no {k c : Int} (h : ¬ (1 ≤ k ∧ k ≤ 1000 ∧ -1000 ≤ c ∧ c ≤ 1000)) : juW k c = false := decide_eq_false h
theorem within_yes {lo hi z : Int} (h1 : lo ≤ z) (h2 : z ≤ hi) : within lo hi z = true := by unfold within; simp; omega
theorem within_no {lo hi z : Int} (h : ¬ (lo ≤ z ∧ z ≤ hi)) : within lo hi z = false := by unfold within; simp only [Bool.and_eq_false_iff, decide_eq_false_iff_not]; omega

theorem juGd_no {x y k c : Int} (h : ¬ (0 ≤ y ∧ y ≤ x ∧ x ≤ 1000000)) : juGd x y k c = false := by unfold juGd; rw [show juN x y = false from decide_eq_false h]; rfl

/-- Two numbers and whether they are. -/
def jpV (o : Option Jp2) : Value := .tuple #[.int .i64 (o.getD (0, 0)).1, .int .i64 (o.getD (0, 0)).2, .bool o.isSome]
set_option maxHeartbeats 1000000 in
theorem juDown_any (x y k : Int) (w : World) (hk : 0 ≤ k ∧ k ≤ 1000000000000) (hp : jpN (x, y)) :
    Calls Try.prog 32 #[.int .i64 x, .int .i64 y, .int .i64 k] w fun e w' => e = .returned (jpV (dnJ k (x, y))) ∧ w = w' := by
  obtain ⟨y1, y2, x2⟩ := hp
  simp only at y1 y2 x2
  obtain ⟨k1, k2⟩ := hk
  obtain ⟨q1, q2⟩ := mulBd (x := k) (y := y) (a := 1000000000000) (b := 1000000) ⟨k1, k2⟩ ⟨y1, by omega⟩ (by omega)
  by_cases c1 : 0 ≤ k * y - x ∧ k * y - x ≤ x - 1
  · have hw1 := within_yes c1.1 c1.2
    by_cases c2 : k * y - x < y
    · have HA := hid (show jpV (dnJ k (x, y)) = .tuple #[.int .i64 y, .int .i64 (k * y - x), .bool true] by unfold dnJ; rw [if_pos (by simp only; omega), if_pos (by simpa using c2)]; rfl)
      clear c1
      go_enter Try.func32, Try.ntmps32
      go_wp2_with (go_at_call 27; refine (l1In_any _ _ _ _).mono ?_; rintro e w' ⟨rfl, rfl⟩)
      go_ret3
      exact ⟨by rw [HA.out]; rfl, rfl⟩
    · have HA := hid (show jpV (dnJ k (x, y)) = .tuple #[.int .i64 (k * y - x), .int .i64 y, .bool true] by unfold dnJ; rw [if_pos (by simp only; omega), if_neg (by simpa using c2)]; rfl)
      clear c1
      go_enter Try.func32, Try.ntmps32
      go_wp2_with (go_at_call 27; refine (l1In_any _ _ _ _).mono ?_; rintro e w' ⟨rfl, rfl⟩)
      go_ret3
      exact ⟨by rw [HA.out]; rfl, rfl⟩
  · have hw1 := within_no c1
    have HA := hid (show jpV (dnJ k (x, y)) = .tuple #[.int .i64 0, .int .i64 0, .bool false] by unfold dnJ; rw [if_neg (by simp only; omega)]; rfl)
    clear c1
    go_enter Try.func32, Try.ntmps32
    go_wp2_with (go_at_call 27; refine (l1In_any _ _ _ _).mono ?_; rintro e w' ⟨rfl, rfl⟩)
    go_ret3
    exact ⟨by rw [HA.out]; rfl, rfl⟩
end Go.Proofs.Ytdngocjhblpkkac
