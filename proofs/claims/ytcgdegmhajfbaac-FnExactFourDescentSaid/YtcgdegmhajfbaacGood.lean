/- Contracts of the checks of a matrix: l1In, l1All, foGood (the model), areWithin, isMatrixUpTo (the program): all answer by one function of the numbers. -/
import Derived.Test.YtcgdegmhajfbaacMark
namespace Go.Proofs.Ytcgdegmhajfbaac
open Go.RowKit

def within (lo hi : Int) (z : Int) : Bool := decide (lo ≤ z) && decide (z ≤ hi)
def rowGood (m : Int) (n : Nat) (r : List Int) : Bool := decide (r.length = n) && r.all (within (-m) m)
def goodM (m : Int) (zss : List (List Int)) : Bool := decide (1 ≤ zss.length) && decide (zss.length ≤ 4) && zss.all (rowGood m zss.length)

theorem l1In_any (n lo hi : Int) (w : World) :
    Calls Try.prog 40 #[.int .i64 n, .int .i64 lo, .int .i64 hi] w fun e w' => e = .returned (.bool (within lo hi n)) ∧ w = w' := by
  by_cases h1 : lo ≤ n
  · go_enter Try.func40, Try.ntmps40
    go_wp2
    go_ret
    exact ⟨ret_bool (by simp [within, h1]), rfl⟩
  · have hb : decide (lo ≤ n) = false := by simpa using h1
    go_enter Try.func40, Try.ntmps40
    go_wp2
    go_ret
    exact ⟨ret_bool (by symm; simp only [within, Bool.and_eq_false_iff, decide_eq_false_iff_not]; omega), rfl⟩
theorem l1In_as (n lo hi : Int) (b : Bool) (w : World) (h : within lo hi n = b) :
    Calls Try.prog 40 #[.int .i64 n, .int .i64 lo, .int .i64 hi] w fun e w' => e = .returned (.bool b) ∧ w = w' := by
  subst h; exact l1In_any n lo hi w

set_option maxHeartbeats 400000 in
theorem l1All_any (v : Value) (zs : List Int) (lo hi : Int) (w : World) (h : Ints w v zs) :
    Calls Try.prog 56 #[v, .int .i64 lo, .int .i64 hi] w fun e w' => e = .returned (.bool (zs.all (within lo hi))) ∧ w = w' := by
  obtain ⟨a, cap, rfl, hl, hc⟩ := h
  have HC := hid hc; clear hc
  go_enter Try.func56, Try.ntmps56
  go_wp2
  go_loop [11] (fun i => ∃ k : Nat, k ≤ zs.length ∧ i = .int .i64 k ∧ (zs.take k).all (within lo hi) = true) (fun i => zs.length - (intOf i).toNat)
  case atStart => exact ⟨0, Nat.zero_le _, rfl, rfl⟩
  case round =>
    obtain ⟨k, hk, rfl, hal⟩ := hrel
    have HA := hid hal; clear hal
    by_cases hlt : k < zs.length
    · obtain ⟨ad, rfl, hcell⟩ := HC.out k hlt
      cases hb : within lo hi (zs.getD k 0)
      · have HB := hid hb; clear hb
        have hcell' := hcell; simp only [getD_at zs k hlt] at hcell' HB; clear hcell
        go_wp2_with fail
        refine (l1In_as _ _ _ _ _ HB.out).mono ?_
        rintro e w' ⟨rfl, rfl⟩
        go_wp2_with fail
        go_ret
        exact ⟨ret_bool (all_false_at _ zs k hlt HB.out).symm, rfl⟩
      · have HB := hid hb; clear hb
        have hcell' := hcell; simp only [getD_at zs k hlt] at hcell' HB; clear hcell
        go_wp2_with fail
        refine (l1In_as _ _ _ _ _ HB.out).mono ?_
        rintro e w' ⟨rfl, rfl⟩
        go_wp2_with fail
        go_round
        case rel => exact ⟨k + 1, hlt, by go_num, all_take_succ _ zs k hlt HA.out HB.out⟩
        case measure => simp [intOf]; omega
    · go_wp2
      go_ret
      exact ⟨ret_bool (by rw [← HA.out, List.take_of_length_le (by omega)]), rfl⟩
theorem l1All_as (v : Value) (zs : List Int) (lo hi : Int) (b : Bool) (w : World) (hb : zs.all (within lo hi) = b) (h : Ints w v zs) :
    Calls Try.prog 56 #[v, .int .i64 lo, .int .i64 hi] w fun e w' => e = .returned (.bool b) ∧ w = w' := by
  subst hb; exact l1All_any v zs lo hi w h

set_option maxHeartbeats 400000 in
theorem areWithin_any (v : Value) (zs : List Int) (m : Int) (w : World) (hm : 0 ≤ m ∧ m ≤ 1000000000) (h : Ints w v zs) :
    Calls Try.prog 63 #[v, .int .i64 m] w fun e w' => e = .returned (.bool (zs.all (within (-m) m))) ∧ w = w' := by
  obtain ⟨a, cap, rfl, hl, hc⟩ := h
  obtain ⟨hm0, hm1⟩ := hm
  have HC := hid hc; clear hc
  go_enter Try.func63, Try.ntmps63
  go_wp2
  go_loop [9] (fun i => ∃ k : Nat, k ≤ zs.length ∧ i = .int .i64 k ∧ (zs.take k).all (within (-m) m) = true) (fun i => zs.length - (intOf i).toNat)
  case atStart => exact ⟨0, Nat.zero_le _, rfl, rfl⟩
  case round =>
    obtain ⟨k, hk, rfl, hal⟩ := hrel
    have HA := hid hal; clear hal
    by_cases hlt : k < zs.length
    · obtain ⟨ad, rfl, hcell⟩ := HC.out k hlt
      by_cases h1 : zs[k] < -m
      · go_wp2
        go_ret
        exact ⟨ret_bool (all_false_at _ zs k hlt (by simp [within]; omega)).symm, rfl⟩
      · by_cases h2 : m < zs[k]
        · go_wp2
          go_ret
          exact ⟨ret_bool (all_false_at _ zs k hlt (by simp [within]; omega)).symm, rfl⟩
        · go_wp2
          go_round
          case rel => exact ⟨k + 1, hlt, by go_num, all_take_succ _ zs k hlt HA.out (by simp [within]; omega)⟩
          case measure => simp [intOf]; omega
    · go_wp2
      go_ret
      exact ⟨ret_bool (by rw [← HA.out, List.take_of_length_le (by omega)]), rfl⟩
theorem areWithin_as (v : Value) (zs : List Int) (m : Int) (b : Bool) (w : World) (hm : 0 ≤ m ∧ m ≤ 1000000000) (hb : zs.all (within (-m) m) = b) (h : Ints w v zs) :
    Calls Try.prog 63 #[v, .int .i64 m] w fun e w' => e = .returned (.bool b) ∧ w = w' := by
  subst hb; exact areWithin_any v zs m w hm h

theorem goodM_size (m : Int) (zss : List (List Int)) (h : ¬ (1 ≤ zss.length ∧ zss.length ≤ 4)) : goodM m zss = false := by
  unfold goodM; rw [← Bool.decide_and, decide_eq_false h]; rfl
theorem goodM_eq (m : Int) (zss : List (List Int)) (h : 1 ≤ zss.length ∧ zss.length ≤ 4) : goodM m zss = zss.all (rowGood m zss.length) := by
  unfold goodM; simp [h.1, h.2]
theorem rowGood_len (m : Int) (n : Nat) (r : List Int) (h : r.length ≠ n) : rowGood m n r = false := by simp [rowGood, h]
theorem rowGood_eq (m : Int) (n : Nat) (r : List Int) (h : r.length = n) : rowGood m n r = r.all (within (-m) m) := by simp [rowGood, h]
theorem getD_row (zss : List (List Int)) (k : Nat) (h : k < zss.length) : zss.getD k [] = zss[k] := by simp [h]

end Go.Proofs.Ytcgdegmhajfbaac
