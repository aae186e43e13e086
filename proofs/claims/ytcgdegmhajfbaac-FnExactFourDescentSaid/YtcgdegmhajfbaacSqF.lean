/- Numbers of chapter 9 within their bounds; IsPrimeNumber in both. -/
import Derived.Test.YtcgdegmhajfbaacSqE
import Derived.Deep.RegionHeld3
namespace Go.Proofs.Ytcgdegmhajfbaac
open Go.RowKit

def inB (lo hi n : Int) : Bool := decide (lo ≤ n ∧ n ≤ hi)
theorem inB_true {lo hi n : Int} (h : lo ≤ n ∧ n ≤ hi) : inB lo hi n = true := decide_eq_true h
theorem inB_false {lo hi n : Int} (h : ¬ (lo ≤ n ∧ n ≤ hi)) : inB lo hi n = false := decide_eq_false h
def primUp (p m : Int) : Bool := decide (p ≤ m) && primI p
set_option maxHeartbeats 1000000 in
theorem isPrimeUpTo_any (p m : Int) (w : World) (hm : m ≤ 1000000) :
    Calls Try.prog 43 #[.int .i64 p, .int .i64 m] w fun e w' => e = .returned (.bool (primUp p m)) ∧ w = w' := by
  by_cases h0 : p ≤ m
  · have HB := hid (show primI p = primUp p m by unfold primUp; rw [decide_eq_true h0]; rfl)
    go_enter Try.func43, Try.ntmps43
    go_wp2_with (go_at_call 59; refine (sqIsPrime_any p _ (by omega)).mono ?_; rintro e w2 ⟨rfl, rfl⟩)
    go_ret
    exact ⟨ret_bool (by rw [← HB.out]), rfl⟩
  · have HB := hid (show primUp p m = false by unfold primUp; rw [decide_eq_false h0]; rfl)
    have hd : decide (p ≤ m) = false := decide_eq_false h0
    go_enter Try.func43, Try.ntmps43
    go_wp2_with fail
    go_ret
    exact ⟨ret_bool (by rw [HB.out]), rfl⟩
theorem isPrimeUpTo_as (p m : Int) (b : Bool) (w : World) (hm : m ≤ 1000000) (h : primUp p m = b) : Calls Try.prog 43 #[.int .i64 p, .int .i64 m] w fun e w' => e = .returned (.bool b) ∧ w = w' := by
  subst h; exact isPrimeUpTo_any p m w hm
theorem l1In_b (n lo hi : Int) (w : World) (b : Bool) (h : inB lo hi n = b) : Calls Try.prog 40 #[.int .i64 n, .int .i64 lo, .int .i64 hi] w fun e w' => e = .returned (.bool b) ∧ w = w' := by
  refine l1In_as _ _ _ _ _ ?_
  rw [← h]; unfold within inB
  rw [Bool.eq_iff_iff]; simp
set_option maxHeartbeats 1000000 in
theorem sqGiven_any (p m : Int) (w : World) (hm : m ≤ 1000000) : Calls Try.prog 22 #[.int .i64 p, .int .i64 m] w fun e w' => e = .returned (.bool (primUp p m)) ∧ w = w' := by
  by_cases h : 2 ≤ p ∧ p ≤ m
  · have HB := hid (inB_true h)
    have HP := hid (show primI p = primUp p m by unfold primUp; rw [decide_eq_true h.2]; rfl)
    go_enter Try.func22, Try.ntmps22
    go_wp2_with (first | (go_at_call 40; refine (l1In_b p 2 m _ _ HB.out).mono ?_; rintro e w2 ⟨rfl, rfl⟩) | (go_at_call 41; refine (sqPrime_any p _ (by omega)).mono ?_; rintro e w2 ⟨rfl, rfl⟩))
    go_ret
    exact ⟨ret_bool (by rw [← HP.out]), rfl⟩
  · have HB := hid (inB_false h)
    have HP := hid (show primUp p m = false by
      unfold primUp
      by_cases h2 : p ≤ m
      · rw [primI_small (by omega)]; simp
      · rw [decide_eq_false h2]; rfl)
    go_enter Try.func22, Try.ntmps22
    go_wp2_with (go_at_call 40; refine (l1In_b p 2 m _ _ HB.out).mono ?_; rintro e w2 ⟨rfl, rfl⟩)
    go_ret
    exact ⟨ret_bool (by rw [HP.out]), rfl⟩
theorem sqGiven_as (p m : Int) (b : Bool) (w : World) (hm : m ≤ 1000000) (h : primUp p m = b) : Calls Try.prog 22 #[.int .i64 p, .int .i64 m] w fun e w' => e = .returned (.bool b) ∧ w = w' := by
  subst h; exact sqGiven_any p m w hm

def primAns (n : Int) : Option Bool := if 0 ≤ n ∧ n ≤ 1000000 then some (primI n) else none
end Go.Proofs.Ytcgdegmhajfbaac
