/- Contracts of the checks of a matrix: l1In, l1All, foGood (the model), areWithin, isMatrixUpTo (the program): all answer by one function of the numbers. -/
import Derived.Test.YthejafejmbpepaaMark
namespace Go.Proofs.Ythejafejmbpepaa
open Go.RowKit

def within (lo hi : Int) (z : Int) : Bool := decide (lo ≤ z) && decide (z ≤ hi)
def rowGood (m : Int) (n : Nat) (r : List Int) : Bool := decide (r.length = n) && r.all (within (-m) m)
def goodM (m : Int) (zss : List (List Int)) : Bool := decide (1 ≤ zss.length) && decide (zss.length ≤ 4) && zss.all (rowGood m zss.length)

theorem l1In_any (n lo hi : Int) (w : World) :
    Calls Try.prog 50 #[.int .i64 n, .int .i64 lo, .int .i64 hi] w fun e w' => e = .returned (.bool (within lo hi n)) ∧ w = w' := by
  by_cases h1 : lo ≤ n
  · go_enter Try.func50, Try.ntmps50
    go_wp2
    go_ret
    exact ⟨ret_bool (by simp [within, h1]), rfl⟩
  · have hb : decide (lo ≤ n) = false := by simpa using h1
    go_enter Try.func50, Try.ntmps50
    go_wp2
    go_ret
    exact ⟨ret_bool (by symm; simp only [within, Bool.and_eq_false_iff, decide_eq_false_iff_not]; omega), rfl⟩
theorem l1In_as (n lo hi : Int) (b : Bool) (w : World) (h : within lo hi n = b) :
    Calls Try.prog 50 #[.int .i64 n, .int .i64 lo, .int .i64 hi] w fun e w' => e = .returned (.bool b) ∧ w = w' := by
  subst h; exact l1In_any n lo hi w

set_option maxHeartbeats 400000 in
theorem areWithin_any (v : Value) (zs : List Int) (m : Int) (w : World) (hm : 0 ≤ m ∧ m ≤ 1000000000) (h : Ints w v zs) :
    Calls Try.prog 84 #[v, .int .i64 m] w fun e w' => e = .returned (.bool (zs.all (within (-m) m))) ∧ w = w' := by
  obtain ⟨a, cap, rfl, hl, hc⟩ := h
  obtain ⟨hm0, hm1⟩ := hm
  have HC := hid hc; clear hc
  go_enter Try.func84, Try.ntmps84
  go_wp2
  go_loop [9] (fun i => ∃ k : Nat, k ≤ zs.length ∧ i = .int .i64 k ∧ (zs.take k).all (within (-m) m) = true) (fun i => zs.length - (intOf i).toNat)
  case atStart => exact ⟨0, Nat.zero_le _, rfl, rfl⟩
  case round =>
    obtain ⟨k, hk, rfl, hal⟩ := hrel
    have HA := hid hal; clear hal
    by_cases hlt : k < zs.length
    · obtain ⟨ad, rfl, hcell⟩ := HC.out k hlt
      by_cases h1 : zs[k] < -m
      · go_wp2
        go_ret
        exact ⟨ret_bool (all_false_at _ zs k hlt (by simp [within]; omega)).symm, rfl⟩
      · by_cases h2 : m < zs[k]
        · go_wp2
          go_ret
          exact ⟨ret_bool (all_false_at _ zs k hlt (by simp [within]; omega)).symm, rfl⟩
        · go_wp2
          go_round
          case rel => exact ⟨k + 1, hlt, by go_num, all_take_succ _ zs k hlt HA.out (by simp [within]; omega)⟩
          case measure => simp [intOf]; omega
    · go_wp2
      go_ret
      exact ⟨ret_bool (by rw [← HA.out, List.take_of_length_le (by omega)]), rfl⟩
theorem areWithin_as (v : Value) (zs : List Int) (m : Int) (b : Bool) (w : World) (hm : 0 ≤ m ∧ m ≤ 1000000000) (hb : zs.all (within (-m) m) = b) (h : Ints w v zs) :
    Calls Try.prog 84 #[v, .int .i64 m] w fun e w' => e = .returned (.bool b) ∧ w = w' := by
  subst hb; exact areWithin_any v zs m w hm h

theorem goodM_size (m : Int) (zss : List (List Int)) (h : ¬ (1 ≤ zss.length ∧ zss.length ≤ 4)) : goodM m zss = false := by
  unfold goodM; rw [← Bool.decide_and, decide_eq_false h]; rfl
theorem goodM_eq (m : Int) (zss : List (List Int)) (h : 1 ≤ zss.length ∧ zss.length ≤ 4) : goodM m zss = zss.all (rowGood m zss.length) := by
  unfold goodM; simp [h.1, h.2]
theorem rowGood_len (m : Int) (n : Nat) (r : List Int) (h : r.length ≠ n) : rowGood m n r = false := by simp [rowGood, h]
theorem rowGood_eq (m : Int) (n : Nat) (r : List Int) (h : r.length = n) : rowGood m n r = r.all (within (-m) m) := by simp [rowGood, h]
theorem getD_row (zss : List (List Int)) (k : Nat) (h : k < zss.length) : zss.getD k [] = zss[k] := by simp [h]

set_option maxHeartbeats 1000000 in
theorem isMatrixUpTo_any (v : Value) (zss : List (List Int)) (m : Int) (w : World) (hm : 0 ≤ m ∧ m ≤ 1000000000) (h : Rows2 w v zss) :
    Calls Try.prog 83 #[.agg #[v], .int .i64 m] w fun e w' => e = .returned (.bool (goodM m zss)) ∧ Later w w' := by
  have h2 := h.later (Later.alloc w (.cells #[v] 31))
  obtain ⟨a, cap, rfl, hl, _⟩ := h
  have HM := hid hm
  by_cases hs1 : 1 ≤ zss.length
  · by_cases hs4 : zss.length ≤ 4
    · have HS := hid (And.intro hs1 hs4)
      obtain ⟨a', cap', e, _, hc⟩ := h2
      simp only [Value.slice.injEq, true_and] at e
      obtain ⟨rfl, rfl⟩ := e
      have HC := hid hc
      clear hc
      go_enter Try.func83, Try.ntmps83
      go_wp2_with fail
      go_loop [20] (fun i => ∃ k : Nat, k ≤ zss.length ∧ i = .int .i64 k ∧ (zss.take k).all (rowGood m zss.length) = true) (fun i => zss.length - (intOf i).toNat)
      case atStart => exact ⟨0, Nat.zero_le _, rfl, rfl⟩
      case round =>
        obtain ⟨k, hk, rfl, hal⟩ := hrel
        have HA := hid hal; clear hal
        by_cases hlt : k < zss.length
        · obtain ⟨ad, u, rfl, hcell, hu⟩ := HC.out k hlt
          rw [getD_row zss k hlt] at hu
          have HU := hid hu
          obtain ⟨a2, cap2, rfl, hl2, _⟩ := hu
          by_cases hlen : zss[k].length = zss.length
          · have hbe : ((zss[k].length : Int) != (zss.length : Int)) = false := by simp [hlen]
            have HLE := hid hlen; clear hlen
            cases hb : zss[k].all (within (-m) m)
            · have HB := hid hb; clear hb
              go_wp2_with fail
              refine (areWithin_as _ _ _ _ _ HM.out HB.out HU.out).mono ?_
              rintro e w' ⟨rfl, rfl⟩
              go_wp2_with fail
              go_ret
              exact ⟨ret_bool (by rw [goodM_eq _ _ HS.out, all_false_at _ zss k hlt (by rw [rowGood_eq _ _ _ HLE.out, HB.out])]), Later.alloc w _⟩
            · have HB := hid hb; clear hb
              go_wp2_with fail
              refine (areWithin_as _ _ _ _ _ HM.out HB.out HU.out).mono ?_
              rintro e w' ⟨rfl, rfl⟩
              go_wp2_with fail
              go_round
              case rel => exact ⟨k + 1, hlt, by go_num, all_take_succ _ zss k hlt HA.out (by rw [rowGood_eq _ _ _ HLE.out, HB.out])⟩
              case measure => simp [intOf]; omega
          · have hbe : ((zss[k].length : Int) != (zss.length : Int)) = true := by simp; omega
            have HLE := hid hlen; clear hlen
            go_wp2_with fail
            go_ret
            exact ⟨ret_bool (by rw [goodM_eq _ _ HS.out, all_false_at _ zss k hlt (rowGood_len _ _ _ HLE.out)]), Later.alloc w _⟩
        · go_wp2_with fail
          go_ret
          exact ⟨ret_bool (by rw [goodM_eq _ _ HS.out, ← HA.out, List.take_of_length_le (by omega)]), Later.alloc w _⟩
    · go_enter Try.func83, Try.ntmps83
      go_wp2_with fail
      go_ret
      exact ⟨ret_bool (goodM_size _ _ (by omega)).symm, Later.alloc w _⟩
  · have hlt1 : (zss.length : Int) < 1 := by omega
    go_enter Try.func83, Try.ntmps83
    go_wp2_with fail
    go_ret
    exact ⟨ret_bool (goodM_size _ _ (by omega)).symm, Later.alloc w _⟩
theorem isMatrixUpTo_as (v : Value) (zss : List (List Int)) (m : Int) (b : Bool) (w : World) (hm : 0 ≤ m ∧ m ≤ 1000000000) (hb : goodM m zss = b) (h : Rows2 w v zss) :
    Calls Try.prog 83 #[.agg #[v], .int .i64 m] w fun e w' => e = .returned (.bool b) ∧ Later w w' := by
  subst hb; exact isMatrixUpTo_any v zss m w hm h

theorem implIsMatrix_any (v : Value) (zss : List (List Int)) (w : World) (h : Rows2 w v zss) :
    Calls Try.prog 53 #[.agg #[v]] w fun e w' => e = .returned (.bool (goodM 1000000 zss)) ∧ Later w w' := by
  have h2 := h.later (Later.alloc w (.cells #[v] 31))
  obtain ⟨a, cap, rfl, hl, _⟩ := h
  have H2 := hid h2; clear h2
  go_enter Try.func53, Try.ntmps53
  go_wp2_with fail
  refine (isMatrixUpTo_any _ _ _ _ ⟨by omega, by omega⟩ H2.out).mono ?_
  rintro e w' ⟨rfl, hL⟩
  have HL := hid ((Later.alloc w _).trans hL); clear hL
  go_wp2_with fail
  go_ret
  exact ⟨rfl, HL.out⟩
end Go.Proofs.Ythejafejmbpepaa
