/- Jumping roots: what the model asks of k, c and pairs; its jump down. -/
import Derived.Test.YtdahhcigphhfdaaJp
import Derived.Deep.RegionHeld3
import Derived.OwnWalk
namespace Go.Proofs.Ytdahhcigphhfdaa
open Go.RowKit

theorem juW_no {k c : Int} (h : ¬ (1 ≤ k ∧ k ≤ 1000 ∧ -1000 ≤ c ∧ c ≤ 1000)) : juW k c = false := decide_eq_false h
theorem within_yes {lo hi z : Int} (h1 : lo ≤ z) (h2 : z ≤ hi) : within lo hi z = true := by unfold within; simp; omega
theorem within_no {lo hi z : Int} (h : ¬ (lo ≤ z ∧ z ≤ hi)) : within lo hi z = false := by unfold within; simp only [Bool.and_eq_false_iff, decide_eq_false_iff_not]; omega

set_option maxHeartbeats 1000000 in
theorem juGiven_any (k c : Int) (w : World) :
    Calls Try.prog 87 #[.int .i64 k, .int .i64 c] w fun e w' => e = .returned (.bool (juW k c)) ∧ w = w' := by
  by_cases c1 : 1 ≤ k ∧ k ≤ 1000
  · have hw1 := within_yes c1.1 c1.2
    by_cases c2 : -1000 ≤ c ∧ c ≤ 1000
    · have hw2 := within_yes c2.1 c2.2
      have HA := hid (juW_iff.2 ⟨c1.1, c1.2, c2.1, c2.2⟩)
      clear c1 c2
      go_enter Try.func87, Try.ntmps87
      go_wp2_with (go_at_call 86; refine (l1In_any _ _ _ _).mono ?_; rintro e w' ⟨rfl, rfl⟩)
      go_ret
      exact ⟨ret_bool HA.out.symm, rfl⟩
    · have hw2 := within_no c2
      have HA := hid (juW_no (k := k) (c := c) (by omega))
      clear c1 c2
      go_enter Try.func87, Try.ntmps87
      go_wp2_with (go_at_call 86; refine (l1In_any _ _ _ _).mono ?_; rintro e w' ⟨rfl, rfl⟩)
      go_ret
      exact ⟨ret_bool HA.out.symm, rfl⟩
  · have hw1 := within_no c1
    have HA := hid (juW_no (k := k) (c := c) (by omega))
    clear c1
    go_enter Try.func87, Try.ntmps87
    go_wp2_with (go_at_call 86; refine (l1In_any _ _ _ _).mono ?_; rintro e w' ⟨rfl, rfl⟩)
    go_ret
    exact ⟨ret_bool HA.out.symm, rfl⟩
theorem juGiven_as (k c : Int) (b : Bool) (w : World) (h : juW k c = b) :
    Calls Try.prog 87 #[.int .i64 k, .int .i64 c] w fun e w' => e = .returned (.bool b) ∧ w = w' := by
  subst h; exact juGiven_any k c w
theorem juGd_no {x y k c : Int} (h : ¬ (0 ≤ y ∧ y ≤ x ∧ x ≤ 1000000)) : juGd x y k c = false := by unfold juGd; rw [show juN x y = false from decide_eq_false h]; rfl

set_option maxHeartbeats 1000000 in
theorem juGood_any (x y k c : Int) (w : World) (hW : juW k c = true) :
    Calls Try.prog 88 #[.int .i64 x, .int .i64 y, .int .i64 k, .int .i64 c] w fun e w' => e = .returned (.bool (juGd x y k c)) ∧ w = w' := by
  obtain ⟨k1, k2, e1, e2⟩ := juW_iff.1 hW
  clear hW
  by_cases c1 : 0 ≤ x ∧ x ≤ 1000000
  · have hw1 := within_yes c1.1 c1.2
    by_cases c2 : 0 ≤ y ∧ y ≤ x
    · have hw2 := within_yes c2.1 c2.2
      obtain ⟨x1, x2⟩ := c1
      obtain ⟨y1, y2⟩ := c2
      obtain ⟨q1, q2⟩ := sqBd ⟨x1, x2⟩
      obtain ⟨q3, q4⟩ := sqBd (x := y) ⟨y1, by omega⟩
      obtain ⟨q5, q6⟩ := mulBd (x := k) (y := x) (a := 1000) (b := 1000000) ⟨by omega, k2⟩ ⟨x1, x2⟩ (by omega)
      obtain ⟨q7, q8⟩ := mulBd (x := k * x) (y := y) (a := 1000000000) (b := 1000000) ⟨q5, by omega⟩ ⟨y1, by omega⟩ (by omega)
      by_cases he : x * x + y * y + c = k * x * y
      · have HA := hid (show juGd x y k c = true by unfold juGd juS; rw [juN_iff.2 ⟨y1, y2, x2⟩, decide_eq_true he]; rfl)
        have hb : (x * x + y * y + c == k * x * y) = true := by simpa using he
        clear he
        go_enter Try.func88, Try.ntmps88
        go_wp2_with (go_at_call 86; refine (l1In_any _ _ _ _).mono ?_; rintro e w' ⟨rfl, rfl⟩)
        go_ret
        exact ⟨ret_bool (by rw [HA.out]), rfl⟩
      · have HA := hid (show juGd x y k c = false by unfold juGd juS; rw [juN_iff.2 ⟨y1, y2, x2⟩, decide_eq_false he]; rfl)
        have hb : (x * x + y * y + c == k * x * y) = false := by simpa using he
        clear he
        go_enter Try.func88, Try.ntmps88
        go_wp2_with (go_at_call 86; refine (l1In_any _ _ _ _).mono ?_; rintro e w' ⟨rfl, rfl⟩)
        go_ret
        exact ⟨ret_bool (by rw [HA.out]), rfl⟩
    · have hw2 := within_no c2
      have HA := hid (juGd_no (x := x) (y := y) (k := k) (c := c) (by omega))
      clear c1 c2
      go_enter Try.func88, Try.ntmps88
      go_wp2_with (go_at_call 86; refine (l1In_any _ _ _ _).mono ?_; rintro e w' ⟨rfl, rfl⟩)
      go_ret
      exact ⟨ret_bool HA.out.symm, rfl⟩
  · have hw1 := within_no c1
    have HA := hid (juGd_no (x := x) (y := y) (k := k) (c := c) (by omega))
    clear c1
    go_enter Try.func88, Try.ntmps88
    go_wp2_with (go_at_call 86; refine (l1In_any _ _ _ _).mono ?_; rintro e w' ⟨rfl, rfl⟩)
    go_ret
    exact ⟨ret_bool HA.out.symm, rfl⟩
theorem juGood_as (x y k c : Int) (b : Bool) (w : World) (hW : juW k c = true) (h : juGd x y k c = b) :
    Calls Try.prog 88 #[.int .i64 x, .int .i64 y, .int .i64 k, .int .i64 c] w fun e w' => e = .returned (.bool b) ∧ w = w' := by
  subst h; exact juGood_any x y k c w hW

/-- Two numbers and whether they are. -/
def jpV (o : Option Jp2) : Value := .tuple #[.int .i64 (o.getD (0, 0)).1, .int .i64 (o.getD (0, 0)).2, .bool o.isSome]
set_option maxHeartbeats 1000000 in
theorem juDown_any (x y k : Int) (w : World) (hk : 0 ≤ k ∧ k ≤ 1000000000000) (hp : jpN (x, y)) :
    Calls Try.prog 136 #[.int .i64 x, .int .i64 y, .int .i64 k] w fun e w' => e = .returned (jpV (dnJ k (x, y))) ∧ w = w' := by
  obtain ⟨y1, y2, x2⟩ := hp
  simp only at y1 y2 x2
  obtain ⟨k1, k2⟩ := hk
  obtain ⟨q1, q2⟩ := mulBd (x := k) (y := y) (a := 1000000000000) (b := 1000000) ⟨k1, k2⟩ ⟨y1, by omega⟩ (by omega)
  by_cases c1 : 0 ≤ k * y - x ∧ k * y - x ≤ x - 1
  · have hw1 := within_yes c1.1 c1.2
    by_cases c2 : k * y - x < y
    · have HA := hid (show jpV (dnJ k (x, y)) = .tuple #[.int .i64 y, .int .i64 (k * y - x), .bool true] by unfold dnJ; rw [if_pos (by simp only; omega), if_pos (by simpa using c2)]; rfl)
      clear c1
      go_enter Try.func136, Try.ntmps136
      go_wp2_with (go_at_call 86; refine (l1In_any _ _ _ _).mono ?_; rintro e w' ⟨rfl, rfl⟩)
      go_ret3
      exact ⟨by rw [HA.out]; rfl, rfl⟩
    · have HA := hid (show jpV (dnJ k (x, y)) = .tuple #[.int .i64 (k * y - x), .int .i64 y, .bool true] by unfold dnJ; rw [if_pos (by simp only; omega), if_neg (by simpa using c2)]; rfl)
      clear c1
      go_enter Try.func136, Try.ntmps136
      go_wp2_with (go_at_call 86; refine (l1In_any _ _ _ _).mono ?_; rintro e w' ⟨rfl, rfl⟩)
      go_ret3
      exact ⟨by rw [HA.out]; rfl, rfl⟩
  · have hw1 := within_no c1
    have HA := hid (show jpV (dnJ k (x, y)) = .tuple #[.int .i64 0, .int .i64 0, .bool false] by unfold dnJ; rw [if_neg (by simp only; omega)]; rfl)
    clear c1
    go_enter Try.func136, Try.ntmps136
    go_wp2_with (go_at_call 86; refine (l1In_any _ _ _ _).mono ?_; rintro e w' ⟨rfl, rfl⟩)
    go_ret3
    exact ⟨by rw [HA.out]; rfl, rfl⟩
end Go.Proofs.Ytdahhcigphhfdaa
