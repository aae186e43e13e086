/- Numbers of chapter 9 within their bounds; IsPrimeNumber in both. -/
import Derived.Test.YtofmmegpadojlaaSqE
import Derived.Deep.RegionHeld3
namespace Go.Proofs.Ytofmmegpadojlaa
open Go.RowKit

def inB (lo hi n : Int) : Bool := decide (lo ≤ n ∧ n ≤ hi)
theorem inB_true {lo hi n : Int} (h : lo ≤ n ∧ n ≤ hi) : inB lo hi n = true := decide_eq_true h
theorem inB_false {lo hi n : Int} (h : ¬ (lo ≤ n ∧ n ≤ hi)) : inB lo hi n = false := decide_eq_false h
def primUp (p m : Int) : Bool := decide (p ≤ m) && primI p
set_option maxHeartbeats 1000000 in
theorem isSum_any (n m : Int) (w : World) :
    Calls Try.prog 67 #[.int .i64 n, .int .i64 m] w fun e w' => e = .returned (.bool (inB 0 m n)) ∧ w = w' := by
  by_cases h0 : 0 ≤ n
  · by_cases h1 : n ≤ m
    · have HB := hid (inB_true (lo := 0) (hi := m) (n := n) ⟨h0, h1⟩)
      go_enter Try.func67, Try.ntmps67
      go_wp2_with fail
      go_ret
      exact ⟨ret_bool (by first | (rw [HB.out]; done) | (rw [HB.out]; simp; done) | (rw [HB.out]; simp; omega)), rfl⟩
    · have HB := hid (inB_false (lo := 0) (hi := m) (n := n) (by omega))
      go_enter Try.func67, Try.ntmps67
      go_wp2_with fail
      go_ret
      exact ⟨ret_bool (by first | (rw [HB.out]; done) | (rw [HB.out]; simp; done) | (rw [HB.out]; simp; omega)), rfl⟩
  · have HB := hid (inB_false (lo := 0) (hi := m) (n := n) (by omega))
    have hd : decide ((0 : Int) ≤ n) = false := decide_eq_false h0
    go_enter Try.func67, Try.ntmps67
    go_wp2_with fail
    go_ret
    exact ⟨ret_bool (by first | (rw [HB.out]; done) | (rw [HB.out]; simp; done) | (rw [HB.out]; simp; omega)), rfl⟩
theorem isSum_as (n m : Int) (b : Bool) (w : World) (h : inB 0 m n = b) : Calls Try.prog 67 #[.int .i64 n, .int .i64 m] w fun e w' => e = .returned (.bool b) ∧ w = w' := by
  subst h; exact isSum_any n m w
set_option maxHeartbeats 1000000 in
theorem isSumOfSome_any (n m : Int) (w : World) :
    Calls Try.prog 84 #[.int .i64 n, .int .i64 m] w fun e w' => e = .returned (.bool (inB 1 m n)) ∧ w = w' := by
  by_cases h0 : 1 ≤ n
  · have HB := hid (show inB 0 m n = inB 1 m n by
      by_cases h : n ≤ m
      · rw [inB_true ⟨by omega, h⟩, inB_true ⟨by omega, h⟩]
      · rw [inB_false (by omega), inB_false (by omega)])
    go_enter Try.func84, Try.ntmps84
    go_wp2_with (go_at_call 67; refine (isSum_as n m _ _ HB.out).mono ?_; rintro e w2 ⟨rfl, rfl⟩)
    go_ret
    exact ⟨ret_bool (by first | rfl | (simp; done) | (simp; omega)), rfl⟩
  · have HB := hid (inB_false (lo := 1) (hi := m) (n := n) (by omega))
    have hd : decide ((1 : Int) ≤ n) = false := decide_eq_false h0
    go_enter Try.func84, Try.ntmps84
    go_wp2_with fail
    go_ret
    exact ⟨ret_bool (by first | (rw [HB.out]; done) | (rw [HB.out]; simp; done) | (rw [HB.out]; simp; omega)), rfl⟩
theorem isSumOfSome_as (n m : Int) (b : Bool) (w : World) (h : inB 1 m n = b) : Calls Try.prog 84 #[.int .i64 n, .int .i64 m] w fun e w' => e = .returned (.bool b) ∧ w = w' := by
  subst h; exact isSumOfSome_any n m w
set_option maxHeartbeats 1000000 in
theorem isPrimeUpTo_any (p m : Int) (w : World) (hm : m ≤ 1000000) :
    Calls Try.prog 63 #[.int .i64 p, .int .i64 m] w fun e w' => e = .returned (.bool (primUp p m)) ∧ w = w' := by
  by_cases h0 : p ≤ m
  · have HB := hid (show primI p = primUp p m by unfold primUp; rw [decide_eq_true h0]; rfl)
    go_enter Try.func63, Try.ntmps63
    go_wp2_with (go_at_call 110; refine (sqIsPrime_any p _ (by omega)).mono ?_; rintro e w2 ⟨rfl, rfl⟩)
    go_ret
    exact ⟨ret_bool (by rw [← HB.out]), rfl⟩
  · have HB := hid (show primUp p m = false by unfold primUp; rw [decide_eq_false h0]; rfl)
    have hd : decide (p ≤ m) = false := decide_eq_false h0
    go_enter Try.func63, Try.ntmps63
    go_wp2_with fail
    go_ret
    exact ⟨ret_bool (by rw [HB.out]), rfl⟩
theorem isPrimeUpTo_as (p m : Int) (b : Bool) (w : World) (hm : m ≤ 1000000) (h : primUp p m = b) : Calls Try.prog 63 #[.int .i64 p, .int .i64 m] w fun e w' => e = .returned (.bool b) ∧ w = w' := by
  subst h; exact isPrimeUpTo_any p m w hm
theorem l1In_b (n lo hi : Int) (w : World) (b : Bool) (h : inB lo hi n = b) : Calls Try.prog 85 #[.int .i64 n, .int .i64 lo, .int .i64 hi] w fun e w' => e = .returned (.bool b) ∧ w = w' := by
  refine l1In_as _ _ _ _ _ ?_
  rw [← h]; unfold within inB
  rw [Bool.eq_iff_iff]; simp
theorem sqNumber_any (n : Int) (w : World) : Calls Try.prog 68 #[.int .i64 n] w fun e w' => e = .returned (.bool (inB 0 1000000 n)) ∧ w = w' := by
  go_enter Try.func68, Try.ntmps68
  go_wp2_with (go_at_call 85; refine (l1In_b n 0 1000000 _ _ rfl).mono ?_; rintro e w2 ⟨rfl, rfl⟩)
  go_ret
  exact ⟨rfl, rfl⟩
theorem sqNumber_as (n : Int) (b : Bool) (w : World) (h : inB 0 1000000 n = b) : Calls Try.prog 68 #[.int .i64 n] w fun e w' => e = .returned (.bool b) ∧ w = w' := by
  subst h; exact sqNumber_any n w
set_option maxHeartbeats 1000000 in
theorem sqGiven_any (p m : Int) (w : World) (hm : m ≤ 1000000) : Calls Try.prog 59 #[.int .i64 p, .int .i64 m] w fun e w' => e = .returned (.bool (primUp p m)) ∧ w = w' := by
  by_cases h : 2 ≤ p ∧ p ≤ m
  · have HB := hid (inB_true h)
    have HP := hid (show primI p = primUp p m by unfold primUp; rw [decide_eq_true h.2]; rfl)
    go_enter Try.func59, Try.ntmps59
    go_wp2_with (first | (go_at_call 85; refine (l1In_b p 2 m _ _ HB.out).mono ?_; rintro e w2 ⟨rfl, rfl⟩) | (go_at_call 69; refine (sqPrime_any p _ (by omega)).mono ?_; rintro e w2 ⟨rfl, rfl⟩))
    go_ret
    exact ⟨ret_bool (by rw [← HP.out]), rfl⟩
  · have HB := hid (inB_false h)
    have HP := hid (show primUp p m = false by
      unfold primUp
      by_cases h2 : p ≤ m
      · rw [primI_small (by omega)]; simp
      · rw [decide_eq_false h2]; rfl)
    go_enter Try.func59, Try.ntmps59
    go_wp2_with (go_at_call 85; refine (l1In_b p 2 m _ _ HB.out).mono ?_; rintro e w2 ⟨rfl, rfl⟩)
    go_ret
    exact ⟨ret_bool (by rw [HP.out]), rfl⟩
theorem sqGiven_as (p m : Int) (b : Bool) (w : World) (hm : m ≤ 1000000) (h : primUp p m = b) : Calls Try.prog 59 #[.int .i64 p, .int .i64 m] w fun e w' => e = .returned (.bool b) ∧ w = w' := by
  subst h; exact sqGiven_any p m w hm

def primAns (n : Int) : Option Bool := if 0 ≤ n ∧ n ≤ 1000000 then some (primI n) else none
set_option maxHeartbeats 1000000 in
theorem specIsPrimeNumber_any (n : Int) (w : World) : Calls Try.prog 16 #[.int .i64 n] w fun e w' => BoolAns w (primAns n) e w' := by
  by_cases h : 0 ≤ n ∧ n ≤ 1000000
  · have HA := hid (show primAns n = some (primI n) from if_pos h)
    have HB := hid (inB_true h)
    go_enter Try.func16, Try.ntmps16
    go_wp2_with (first | (go_at_call 68; refine (sqNumber_as n _ _ HB.out).mono ?_; rintro e w2 ⟨rfl, rfl⟩) | (go_at_call 69; refine (sqPrime_any n _ h.2).mono ?_; rintro e w2 ⟨rfl, rfl⟩))
    go_ret2
    exact ⟨by rw [HA.out]; rfl, Later.refl _⟩
  · have HA := hid (show primAns n = none from if_neg h)
    have HB := hid (inB_false h)
    clear h
    go_enter Try.func16, Try.ntmps16
    go_wp2_with (go_at_call 68; refine (sqNumber_as n _ _ HB.out).mono ?_; rintro e w2 ⟨rfl, rfl⟩)
    go_ret2
    exact ⟨by rw [HA.out]; rfl, Later.refl _⟩
set_option maxHeartbeats 1000000 in
theorem implIsPrimeNumber_any (n : Int) (w : World) : Calls Try.prog 15 #[.int .i64 n] w fun e w' => BoolAns w (primAns n) e w' := by
  have HA := hid (show primAns n = if inB 0 1000000 n = true then some (primUp n 1000000) else none by
    unfold primAns primUp
    by_cases h : 0 ≤ n ∧ n ≤ 1000000
    · rw [if_pos h, if_pos (inB_true h), decide_eq_true h.2]; rfl
    · rw [if_neg h, if_neg (by rw [inB_false h]; simp)])
  have HP := hid (show inB 0 1000000 n = false → primUp n 1000000 = false from fun hb => by
    have h : ¬ (0 ≤ n ∧ n ≤ 1000000) := of_decide_eq_false hb
    unfold primUp
    by_cases h2 : n ≤ 1000000
    · rw [primI_small (by omega)]; simp
    · rw [decide_eq_false h2]; rfl)
  go_enter Try.func15, Try.ntmps15
  go_wp2_with (first | (go_at_call 63; refine (isPrimeUpTo_any n 1000000 _ (by omega)).mono ?_; rintro e w2 ⟨rfl, rfl⟩) | (go_at_call 67; refine (isSum_any n 1000000 _).mono ?_; rintro e w2 ⟨rfl, rfl⟩))
  go_ret2
  refine ⟨?_, Later.refl _⟩
  rw [HA.out]
  have h2 := HP.out
  cases hb : inB 0 1000000 n
  · rw [h2 hb]; rfl
  · rfl
end Go.Proofs.Ytofmmegpadojlaa
