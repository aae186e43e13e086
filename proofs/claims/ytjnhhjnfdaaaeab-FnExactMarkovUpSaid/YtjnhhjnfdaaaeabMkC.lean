/- Triples modulo a prime number: contracts of the checks. -/
import Derived.Test.YtjnhhjnfdaaaeabMkN
namespace Go.Proofs.Ytjnhhjnfdaaaeab
open Go.RowKit

def prime13 (p : Int) : Bool := [2, 3, 5, 7, 11, 13].contains p
theorem prime13_iff (p : Int) : prime13 p = true ↔ (p = 2 ∨ p = 3 ∨ p = 5 ∨ p = 7 ∨ p = 11 ∨ p = 13) := by simp [prime13]
theorem prime13_no {p : Int} (h : ¬ (p = 2 ∨ p = 3 ∨ p = 5 ∨ p = 7 ∨ p = 11 ∨ p = 13)) : prime13 p = false := by
  cases hp : prime13 p
  · rfl
  · exact absurd ((prime13_iff p).1 hp) h
theorem prime13_of {p : Int} {b : Bool} (h : b = true ↔ (p = 2 ∨ p = 3 ∨ p = 5 ∨ p = 7 ∨ p = 11 ∨ p = 13)) : b = prime13 p := by
  rw [Bool.eq_iff_iff, prime13_iff]; exact h

set_option maxHeartbeats 400000 in
theorem isPrime_any (p : Int) (w : World) (hp : p ≤ 13) (h64 : -9223372036854775808 ≤ p) :
    Calls Try.prog 145 #[.int .i64 p] w fun e w' => e = .returned (.bool (prime13 p)) ∧ w = w' := by
  go_enter Try.func145, Try.ntmps145
  go_wp2_with fail
  go_loop [3] (fun d => d = .int .i64 2 ∨ (d = .int .i64 3 ∧ 4 ≤ p ∧ p % 2 ≠ 0) ∨ (d = .int .i64 4 ∧ 9 ≤ p ∧ p % 2 ≠ 0 ∧ p % 3 ≠ 0)) (fun d => 4 - (intOf d).toNat)
  case atStart => exact .inl rfl
  case round =>
    rcases hrel with rfl | ⟨rfl, h4, h2⟩ | ⟨rfl, h9, h2, h3⟩
    · by_cases h4 : 4 ≤ p
      · have q1 : p.tmod 2 = p % 2 := Int.tmod_eq_emod_of_nonneg (by omega)
        obtain ⟨r, hr⟩ : ∃ r, p % 2 = r := ⟨_, rfl⟩
        rw [hr] at q1
        by_cases h2 : r = 0
        · have hd : (r == 0) = true := by simp [h2]
          have HF := hid (show prime13 p = false from prime13_no (by omega))
          clear hr h2
          go_wp2_with fail
          go_ret
          exact ⟨ret_bool HF.out.symm, rfl⟩
        · have hd : (r == 0) = false := by simp [h2]
          have HR := hid (show p % 2 ≠ 0 by omega)
          clear hr h2
          go_wp2_with fail
          go_round
          case rel => exact .inr (.inl ⟨rfl, h4, HR.out⟩)
          case measure => simp [intOf]
      · go_wp2_with fail
        go_ret
        exact ⟨ret_bool (prime13_of (by simp only [decide_eq_true_eq]; omega)), rfl⟩
    · have HR2 := hid h2
      clear h2
      by_cases h9 : 9 ≤ p
      · have q1 : p.tmod 3 = p % 3 := Int.tmod_eq_emod_of_nonneg (by omega)
        obtain ⟨r, hr⟩ : ∃ r, p % 3 = r := ⟨_, rfl⟩
        rw [hr] at q1
        by_cases h2 : r = 0
        · have hd : (r == 0) = true := by simp [h2]
          have HF := hid (show prime13 p = false from prime13_no (by omega))
          clear hr h2
          go_wp2_with fail
          go_ret
          exact ⟨ret_bool HF.out.symm, rfl⟩
        · have hd : (r == 0) = false := by simp [h2]
          have HR := hid (show p % 3 ≠ 0 by omega)
          clear hr h2
          go_wp2_with fail
          go_round
          case rel => exact .inr (.inr ⟨rfl, h9, HR2.out, HR.out⟩)
          case measure => simp [intOf]
      · go_wp2_with fail
        go_ret
        exact ⟨ret_bool (prime13_of (by have := HR2.out; simp only [decide_eq_true_eq]; omega)), rfl⟩
    · have HR2 := hid h2
      have HR3 := hid h3
      clear h2 h3
      go_wp2_with fail
      go_ret
      exact ⟨ret_bool (prime13_of (by have := HR2.out; have := HR3.out; simp only [decide_eq_true_eq]; omega)), rfl⟩
theorem isModulus_any (p : Int) (w : World) (h64 : -9223372036854775808 ≤ p) :
    Calls Try.prog 106 #[.int .i64 p] w fun e w' => e = .returned (.bool (prime13 p)) ∧ w = w' := by
  by_cases h : p ≤ 13
  · go_enter Try.func106, Try.ntmps106
    go_wp2_with fail
    refine (isPrime_any p _ h h64).mono ?_
    rintro e w' ⟨rfl, rfl⟩
    go_wp2_with fail
    go_ret
    exact ⟨rfl, rfl⟩
  · have hd : decide (p ≤ 13) = false := decide_eq_false h
    have HF := hid (show prime13 p = false from prime13_no (by omega))
    go_enter Try.func106, Try.ntmps106
    go_wp2_with fail
    go_ret
    exact ⟨ret_bool HF.out.symm, rfl⟩

def hasI (zs : List Int) (n : Int) : Bool := zs.contains n
theorem hasI_iff {zs : List Int} {n : Int} : hasI zs n = true ↔ n ∈ zs := by simp [hasI]
set_option maxHeartbeats 400000 in
theorem l1Has_any (v : Value) (zs : List Int) (n : Int) (w : World) (h : Ints w v zs) :
    Calls Try.prog 105 #[v, .int .i64 n] w fun e w' => e = .returned (.bool (hasI zs n)) ∧ w = w' := by
  obtain ⟨a, cap, rfl, hl, hc⟩ := h
  have HC := hid hc; clear hc
  go_enter Try.func105, Try.ntmps105
  go_wp2_with fail
  go_loop [9] (fun i => ∃ k : Nat, k ≤ zs.length ∧ i = .int .i64 k ∧ hasI (zs.take k) n = false) (fun i => zs.length - (intOf i).toNat)
  case atStart => exact ⟨0, Nat.zero_le _, rfl, rfl⟩
  case round =>
    obtain ⟨k, hk, rfl, hal⟩ := hrel
    have HA := hid hal; clear hal
    by_cases hlt : k < zs.length
    · obtain ⟨ad, rfl, hcell⟩ := HC.out k hlt
      rw [getD_at zs k hlt] at hcell
      by_cases hb : zs[k] = n
      · have hd : (zs[k] == n) = true := by simp [hb]
        have HF := hid (show hasI zs n = true by rw [hasI_iff]; rw [← hb]; exact List.getElem_mem hlt)
        clear hb
        go_wp2_with fail
        go_ret
        exact ⟨ret_bool HF.out.symm, rfl⟩
      · have hd : (zs[k] == n) = false := by simp [hb]
        have HF := hid (show hasI (zs.take (k + 1)) n = false by
          rw [take_snoc zs k hlt]
          have h1 := HA.out
          cases hx : hasI (zs.take k ++ [zs[k]]) n
          · rfl
          · rw [hasI_iff, List.mem_append, List.mem_singleton] at hx
            rcases hx with hx | hx
            · rw [← hasI_iff, h1] at hx; cases hx
            · exact absurd hx.symm hb)
        clear hb
        go_wp2_with fail
        go_round
        case rel => exact ⟨k + 1, hlt, by go_num, HF.out⟩
        case measure => simp [intOf]; omega
    · go_wp2_with fail
      go_ret
      exact ⟨ret_bool (by rw [← take_all zs k (by omega), HA.out]), rfl⟩
theorem ownsSix (w : World) : OwnInts w.heap.size (w.heap.size + 1) (w.alloc (.cells #[.int .i64 2, .int .i64 3, .int .i64 5, .int .i64 7, .int .i64 11, .int .i64 13] 3)) (.slice (some ⟨w.heap.size, 0, none⟩) 6 6) [2, 3, 5, 7, 11, 13] := by
  have h := World.ownsRow_lit (e := 3) (size := 1) w #[.int .i64 2, .int .i64 3, .int .i64 5, .int .i64 7, .int .i64 11, .int .i64 13] 6 (Nat.le_refl _) (by unfold maxLen; omega) (by simp)
  refine ⟨by simpa using h, fun b hb => by simp [Value.ownBlock] at hb; omega⟩
theorem mkPrime_any (p : Int) (w : World) :
    Calls Try.prog 67 #[.int .i64 p] w fun e w' => e = .returned (.bool (prime13 p)) ∧ Later w w' := by
  have HO := hid (ownsSix w).ints
  go_enter Try.func67, Try.ntmps67
  go_wp2_with fail
  refine (l1Has_any _ [2, 3, 5, 7, 11, 13] p _ HO.out).mono ?_
  rintro e w' ⟨rfl, rfl⟩
  go_wp2_with fail
  go_ret
  exact ⟨rfl, Later.alloc _ _⟩
theorem mkPrime_as (p : Int) (b : Bool) (w : World) (h : prime13 p = b) :
    Calls Try.prog 67 #[.int .i64 p] w fun e w' => e = .returned (.bool b) ∧ Later w w' := by
  subst h; exact mkPrime_any p w
end Go.Proofs.Ytjnhhjnfdaaaeab
