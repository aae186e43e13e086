/- Numbers of chapter 9 within their bounds; IsPrimeNumber in both. -/
import Derived.Test.YtcgdegmhajfbaabSqE
import Derived.Deep.RegionHeld3
namespace Go.Proofs.Ytcgdegmhajfbaab
open Go.RowKit

def inB (lo hi n : Int) : Bool := decide (lo ≤ n ∧ n ≤ hi)
theorem inB_true {lo hi n : Int} (h : lo ≤ n ∧ n ≤ hi) : inB lo hi n = true := decide_eq_true h
theorem inB_false {lo hi n : Int} (h : ¬ (lo ≤ n ∧ n ≤ hi)) : inB lo hi n = false := decide_eq_false h
def primUp (p m : Int) : Bool := decide (p ≤ m) && primI p
set_option maxHeartbeats 1000000 in
theorem isSum_any (n m : Int) (w : World) :
    Calls Try.prog 42 #[.int .i64 n, .int .i64 m] w fun e w' => e = .returned (.bool (inB 0 m n)) ∧ w = w' := by
  by_cases h0 : 0 ≤ n
  · by_cases h1 : n ≤ m
    · have HB := hid (inB_true (lo := 0) (hi := m) (n := n) ⟨h0, h1⟩)
      go_enter Try.func42, Try.ntmps42
      go_wp2_with fail
      go_ret
      exact ⟨ret_bool (by first | (rw [HB.out]; done) | (rw [HB.out]; simp; done) | (rw [HB.out]; simp; omega)), rfl⟩
    · have HB := hid (inB_false (lo := 0) (hi := m) (n := n) (by omega))
      go_enter Try.func42, Try.ntmps42
      go_wp2_with fail
      go_ret
      exact ⟨ret_bool (by first | (rw [HB.out]; done) | (rw [HB.out]; simp; done) | (rw [HB.out]; simp; omega)), rfl⟩
  · have HB := hid (inB_false (lo := 0) (hi := m) (n := n) (by omega))
    have hd : decide ((0 : Int) ≤ n) = false := decide_eq_false h0
    go_enter Try.func42, Try.ntmps42
    go_wp2_with fail
    go_ret
    exact ⟨ret_bool (by first | (rw [HB.out]; done) | (rw [HB.out]; simp; done) | (rw [HB.out]; simp; omega)), rfl⟩
theorem isSum_as (n m : Int) (b : Bool) (w : World) (h : inB 0 m n = b) : Calls Try.prog 42 #[.int .i64 n, .int .i64 m] w fun e w' => e = .returned (.bool b) ∧ w = w' := by
  subst h; exact isSum_any n m w
theorem l1In_b (n lo hi : Int) (w : World) (b : Bool) (h : inB lo hi n = b) : Calls Try.prog 38 #[.int .i64 n, .int .i64 lo, .int .i64 hi] w fun e w' => e = .returned (.bool b) ∧ w = w' := by
  refine l1In_as _ _ _ _ _ ?_
  rw [← h]; unfold within inB
  rw [Bool.eq_iff_iff]; simp
theorem sqNumber_any (n : Int) (w : World) : Calls Try.prog 30 #[.int .i64 n] w fun e w' => e = .returned (.bool (inB 0 1000000 n)) ∧ w = w' := by
  go_enter Try.func30, Try.ntmps30
  go_wp2_with (go_at_call 38; refine (l1In_b n 0 1000000 _ _ rfl).mono ?_; rintro e w2 ⟨rfl, rfl⟩)
  go_ret
  exact ⟨rfl, rfl⟩
theorem sqNumber_as (n : Int) (b : Bool) (w : World) (h : inB 0 1000000 n = b) : Calls Try.prog 30 #[.int .i64 n] w fun e w' => e = .returned (.bool b) ∧ w = w' := by
  subst h; exact sqNumber_any n w
def primAns (n : Int) : Option Bool := if 0 ≤ n ∧ n ≤ 1000000 then some (primI n) else none
end Go.Proofs.Ytcgdegmhajfbaab
