/- Prime numbers and the least root of minus one: the answers of chapter 9 as functions. -/
import Derived.Test.YtofmmegpadojlaaSqA
import Derived.Test.YtofmmegpadojlaaSqC
namespace Go.Proofs.Ytofmmegpadojlaa.Sq

def primB (n : Nat) : Bool := decide (2 ≤ n) && ((List.range n).all fun d => decide (d < 2) || decide (n % d ≠ 0))
theorem primB_iff (n : Nat) : primB n = true ↔ Prim n := by
  simp only [primB, Prim, Bool.and_eq_true, decide_eq_true_eq, List.all_eq_true, List.mem_range, Bool.or_eq_true]
  constructor
  · rintro ⟨h1, h2⟩
    refine ⟨h1, fun d h3 h4 h5 => ?_⟩
    rcases h2 d h4 with h6 | h6
    · omega
    · exact h6 (Nat.mod_eq_zero_of_dvd h5)
  · rintro ⟨h1, h2⟩
    refine ⟨h1, fun d h3 => ?_⟩
    by_cases h4 : d < 2
    · exact .inl h4
    · exact .inr fun h5 => h2 d (by omega) h3 (Nat.dvd_of_mod_eq_zero h5)
theorem primB_yes {n : Nat} (h2 : 2 ≤ n) (d : Nat) (hd : n < d * d) (h : ∀ e, 2 ≤ e → e < d → n % e ≠ 0) : primB n = true := by
  rw [primB_iff]
  refine ⟨h2, fun e h3 h4 h5 => ?_⟩
  by_cases h6 : e < d
  · exact h e h3 h6 (Nat.mod_eq_zero_of_dvd h5)
  · obtain ⟨f, hf⟩ := h5
    have hfd : f < d := by
      refine Nat.not_le.1 fun h7 => ?_
      have := Nat.mul_le_mul (Nat.not_lt.1 h6) h7
      omega
    have hf2 : 2 ≤ f := by
      rcases Nat.lt_or_ge f 2 with h8 | h8
      · have h9 : f = 0 ∨ f = 1 := by omega
        rcases h9 with rfl | rfl <;> simp at hf <;> omega
      · exact h8
    exact h f hf2 hfd (Nat.mod_eq_zero_of_dvd ⟨e, by rw [Nat.mul_comm]; exact hf⟩)
theorem primB_no {n d : Nat} (h2 : 2 ≤ d) (hd : d * d ≤ n) (h : n % d = 0) : primB n = false := by
  cases hp : primB n
  · rfl
  · have h3 := (primB_iff n).1 hp
    have h4 : d < n := by have := Nat.mul_le_mul_right d h2; omega
    exact absurd (Nat.dvd_of_mod_eq_zero h) (h3.2 d h2 h4)
theorem primB_small {n : Nat} (h : n < 2) : primB n = false := by
  cases hp : primB n
  · rfl
  · have := ((primB_iff n).1 hp).1; omega

def minusN (p : Nat) : Nat := (firstI (fun r => (r * r + 1) % p == 0) (p - 1) 1).getD 0
/-- Whoever has one root has the least one. -/
theorem minusN_of {p r : Nat} (hp : Prim p) (h1 : 1 ≤ r) (h2 : r < p) (h : p ∣ r * r + 1) : minusN p = min r (p - r) := by
  have hother : ∀ s : Nat, 1 ≤ s → s < p → (s * s + 1) % p = 0 → s = r ∨ s = p - r := by
    intro s g1 g2 g3
    have g4 : p ∣ s * s + 1 := Nat.dvd_of_mod_eq_zero g3
    have g5 : (p : Int) ∣ ((s : Int) - (r : Int)) * ((s : Int) + (r : Int)) := by
      have k1 : (p : Int) ∣ ((s * s + 1 : Nat) : Int) := Int.natCast_dvd_natCast.2 g4
      have k2 : (p : Int) ∣ ((r * r + 1 : Nat) : Int) := Int.natCast_dvd_natCast.2 h
      have k3 := Int.dvd_sub k1 k2
      have k4 : ((s * s + 1 : Nat) : Int) - ((r * r + 1 : Nat) : Int) = ((s : Int) - (r : Int)) * ((s : Int) + (r : Int)) := by
        simp only [Int.natCast_add, Int.natCast_mul]; grind
      rwa [k4] at k3
    rcases hp.idvd_mul g5 with k | k
    · left
      have k5 : p ∣ ((s : Int) - (r : Int)).natAbs := Int.ofNat_dvd_left.1 k
      by_cases hz : ((s : Int) - (r : Int)).natAbs = 0
      · omega
      · have := Nat.le_of_dvd (by omega) k5; omega
    · right
      have k5 : p ∣ ((s : Int) + (r : Int)).natAbs := Int.ofNat_dvd_left.1 k
      obtain ⟨c, hc⟩ := k5
      have hc1 : c = 1 := by
        rcases Nat.lt_or_ge c 2 with k6 | k6
        · have : c = 0 ∨ c = 1 := by omega
          rcases this with rfl | rfl
          · simp at hc; omega
          · rfl
        · have := Nat.mul_le_mul_left p k6; omega
      subst hc1; omega
  have hm : (r * r + 1) % p = 0 := Nat.mod_eq_zero_of_dvd h
  have hm2 : ((p - r) * (p - r) + 1) % p = 0 := by
    obtain ⟨q, hq⟩ := h
    refine Nat.mod_eq_zero_of_dvd (Int.natCast_dvd_natCast.1 ⟨(p : Int) - 2 * r + q, ?_⟩)
    have hq2 : (r : Int) * r + 1 = p * q := by rw [← Int.natCast_mul, ← Int.natCast_mul]; omega
    have hs : ((p - r : Nat) : Int) = (p : Int) - r := by omega
    rw [Int.natCast_add, Int.natCast_mul, hs]
    simp only [Int.natCast_one]
    grind
  have : firstI (fun r => (r * r + 1) % p == 0) (p - 1) 1 = some (min r (p - r)) := by
    refine firstI_is _ _ _ _ (by omega) (by omega) ?_ ?_
    · rcases Nat.le_total r (p - r) with h5 | h5
      · rw [Nat.min_eq_left h5]; simpa using hm
      · rw [Nat.min_eq_right h5]; simpa using hm2
    · intro s g1 g2
      cases hb : ((s * s + 1) % p == 0)
      · rfl
      · have := hother s g1 (by omega) (by simpa using hb); omega
  unfold minusN; rw [this]; rfl
theorem minusN_two : minusN 2 = 1 := by decide
end Go.Proofs.Ytofmmegpadojlaa.Sq
