/- Right triples: pairs, the triples that they make, the two trees: arithmetic. -/
import Derived.Test.YtdahhcigphhfdacRoot
namespace Go.Proofs.Ytdahhcigphhfdac
open Go.RowKit

theorem gcdF_eq (k : Nat) : ∀ a b : Int, b.natAbs < k → gcdF k a b = (Int.gcd a b : Int) := by
  induction k with
  | zero => intro a b h; omega
  | succ k ih =>
    intro a b h
    unfold gcdF
    split
    · rename_i h0
      subst h0
      unfold maxI
      simp only [Int.gcd_zero_right]
      split <;> omega
    · rename_i h0
      have := tmod_lt a b h0
      rw [ih b _ (by omega)]
      congr 1
      unfold Int.gcd
      rw [Int.natAbs_tmod, Nat.gcd_comm, ← Nat.gcd_rec, Nat.gcd_comm]
theorem gcdW_eq (a b : Int) : gcdW a b = (Int.gcd a b : Int) := gcdF_eq _ a b (by omega)

/-- What the program's isValid asks for. -/
def validB (m n : Int) : Bool := decide (1 ≤ n ∧ n < m ∧ m ≤ 1000000000 ∧ (m + n) % 2 = 1 ∧ gcdW m n = 1)
def pairB (m n : Int) : Bool := validB m n && decide (m * m + n * n ≤ 1000000000)
def sidesL (m n : Int) : List Int := [m * m - n * n, 2 * m * n, m * m + n * n]
def tripAns (m n : Int) : Option (List Int) := if pairB m n = true then some (sidesL m n) else none
structure Valid (m n : Int) : Prop where
  h1 : 1 ≤ n
  h2 : n < m
  h3 : m ≤ 1000000000
  h4 : (m + n) % 2 = 1
  h5 : gcdW m n = 1
structure Pair (m n : Int) : Prop extends Valid m n where
  h6 : m * m + n * n ≤ 1000000000
  h7 : m ≤ 31622
theorem validB_iff {m n : Int} : validB m n = true ↔ Valid m n := by
  unfold validB
  rw [decide_eq_true_eq]
  exact ⟨fun ⟨a, b, c, d, e⟩ => ⟨a, b, c, d, e⟩, fun ⟨a, b, c, d, e⟩ => ⟨a, b, c, d, e⟩⟩
theorem sq_le_of {m n : Int} (h1 : 1 ≤ n) (_h2 : n < m) (h : m * m + n * n ≤ 1000000000) : m ≤ 31622 := by
  apply Int.le_of_not_gt
  intro hc
  have p1 : (31623 : Int) * 31623 ≤ m * m := Int.mul_le_mul (by omega) (by omega) (by omega) (by omega)
  have p2 : (0 : Int) ≤ n * n := Int.mul_nonneg (by omega) (by omega)
  omega
theorem pairB_iff {m n : Int} : pairB m n = true ↔ Pair m n := by
  unfold pairB
  rw [Bool.and_eq_true, validB_iff, decide_eq_true_eq]
  exact ⟨fun ⟨a, b⟩ => ⟨a, b, sq_le_of a.h1 a.h2 b⟩, fun a => ⟨a.toValid, a.h6⟩⟩
theorem Pair.yes {m n : Int} (h : Pair m n) : pairB m n = true := pairB_iff.2 h
theorem tripAns_yes {m n : Int} (h : Pair m n) : tripAns m n = some (sidesL m n) := if_pos h.yes
theorem tripAns_no {m n : Int} (h : pairB m n = false) : tripAns m n = none := if_neg (by rw [h]; simp)
theorem pair21 : Pair 2 1 := pairB_iff.1 (by decide)

/-- bounds of the products of a pair -/
theorem Pair.prods {m n : Int} (h : Pair m n) : n * n < m * m ∧ 1 ≤ n * n ∧ m * m ≤ 999950884 ∧ n ≤ m * n ∧ m * n ≤ m * m ∧ 2 * m * n = 2 * (m * n) ∧ n * m = m * n := by
  obtain ⟨⟨h1, h2, h3, h4, h5⟩, h6, h7⟩ := h
  have p1 : (1 : Int) * 1 ≤ n * n := Int.mul_le_mul (by omega) (by omega) (by omega) (by omega)
  have p2 : n * n ≤ (m - 1) * (m - 1) := Int.mul_le_mul (by omega) (by omega) (by omega) (by omega)
  have p3 : m * m ≤ 31622 * 31622 := Int.mul_le_mul (by omega) (by omega) (by omega) (by omega)
  have p4 : (1 : Int) * n ≤ m * n := Int.mul_le_mul (by omega) (by omega) (by omega) (by omega)
  have p5 : m * n ≤ m * m := Int.mul_le_mul (by omega) (by omega) (by omega) (by omega)
  have p6 : (m - 1) * (m - 1) = m * m - 2 * m + 1 := by grind
  have p7 : 2 * m * n = 2 * (m * n) := by grind
  have p8 : n * m = m * n := Int.mul_comm _ _
  omega

theorem root_sq {m : Int} (h : 0 ≤ m) (q : Int) (hq : q = m * m) : (rootN q.toNat : Int) = m := by
  subst hq
  obtain ⟨k, rfl⟩ : ∃ k : Nat, m = (k : Int) := ⟨m.toNat, by omega⟩
  have : ((k : Int) * (k : Int)).toNat = k * k := by rw [← Int.natCast_mul, Int.toNat_natCast]
  rw [this, rootN_eq (k * k) k (Nat.le_refl _) (by rw [Nat.mul_add, Nat.add_mul]; omega)]

def backM (t : List Int) : Int := rootN (((t.getD 2 0 + t.getD 0 0) / 2).toNat)
def backN (t : List Int) : Int := rootN (((t.getD 2 0 - t.getD 0 0) / 2).toNat)
/-- The pair of a right triple. -/
def rightP (t : List Int) : Option (Int × Int) :=
  if t.length = 3 ∧ pairB (backM t) (backN t) = true ∧ sidesL (backM t) (backN t) = t then some (backM t, backN t) else none
theorem back_sides {m n : Int} (h : Pair m n) : backM (sidesL m n) = m ∧ backN (sidesL m n) = n := by
  obtain ⟨p1, p2, p3, p4, p5, p6, p7⟩ := h.prods
  have h1 := h.h1
  have h2 := h.h2
  unfold backM backN sidesL
  simp only [List.getD_cons_zero, List.getD_cons_succ]
  exact ⟨root_sq (by omega) _ (by omega), root_sq (by omega) _ (by omega)⟩
theorem right_sides {m n : Int} (h : Pair m n) : rightP (sidesL m n) = some (m, n) := by
  obtain ⟨h1, h2⟩ := back_sides h
  unfold rightP
  rw [h1, h2, if_pos ⟨rfl, h.yes, rfl⟩]
theorem right_some {t : List Int} {m n : Int} (h : rightP t = some (m, n)) : Pair m n ∧ t = sidesL m n := by
  unfold rightP at h
  split at h
  · rename_i hc
    simp only [Option.some.injEq, Prod.mk.injEq] at h
    obtain ⟨rfl, rfl⟩ := h
    exact ⟨pairB_iff.1 hc.2.1, hc.2.2.symm⟩
  · cases h
/-- Any pair whose triple this is, is the one. -/
theorem right_only {t : List Int} {m n : Int} (h : Pair m n) (ht : sidesL m n = t) : rightP t = some (m, n) := by rw [← ht]; exact right_sides h

theorem cop_parent {a b m n : Int} (p q r s : Int) (h1 : m = p * a + q * b) (h2 : n = r * a + s * b) (h : gcdW m n = 1) : gcdW a b = 1 := by
  rw [gcdW_eq] at h ⊢
  have ha : (Int.gcd a b : Int) ∣ a := Int.gcd_dvd_left a b
  have hb : (Int.gcd a b : Int) ∣ b := Int.gcd_dvd_right a b
  have d1 : (Int.gcd a b : Int) ∣ m := by rw [h1]; exact Int.dvd_add (Int.dvd_mul_of_dvd_right ha) (Int.dvd_mul_of_dvd_right hb)
  have d2 : (Int.gcd a b : Int) ∣ n := by rw [h2]; exact Int.dvd_add (Int.dvd_mul_of_dvd_right ha) (Int.dvd_mul_of_dvd_right hb)
  have d3 := Int.dvd_coe_gcd d1 d2
  rw [h] at d3
  have : Int.gcd a b ∣ 1 := by exact_mod_cast d3
  have := Nat.dvd_one.1 this
  omega
theorem gcd_mul {m n : Int} (k : Int) (h1 : 1 ≤ n) (h : m = k * n) (hg : gcdW m n = 1) : n = 1 := by
  rw [gcdW_eq] at hg
  have d : (n : Int) ∣ (Int.gcd m n : Int) := Int.dvd_coe_gcd (by rw [h]; exact Int.dvd_mul_left _ _) (Int.dvd_refl _)
  rw [hg] at d
  have := Int.le_of_dvd (by omega) d
  omega

/-! ### children and parents -/

def bergC (m n k : Int) : Int × Int := if k = 0 then (2 * m - n, m) else if k = 1 then (2 * m + n, m) else (m + 2 * n, n)
def priceC (m n k : Int) : Int × Int := if k = 0 then (m + n, 2 * n) else if k = 1 then (2 * m, m - n) else (2 * m, m + n)
def bergU (m n : Int) : Int × Int × Int := if m < 2 * n then (n, 2 * n - m, 0) else if m < 3 * n then (n, m - 2 * n, 1) else (m - 2 * n, n, 2)
def priceU (m n : Int) : Int × Int × Int := if n % 2 = 0 then (m - n / 2, n / 2, 0) else if 2 * n < m then (m / 2, m / 2 - n, 1) else (m / 2, n - m / 2, 2)
theorem pair_small {m n : Int} (h : Pair m n) : m ≤ 2 ↔ m = 2 ∧ n = 1 := by
  have h1 := h.h1
  have h2 := h.h2
  omega
theorem berg_up {m n : Int} (h : Pair m n) (hm : 2 < m) : Pair (bergU m n).1 (bergU m n).2.1 ∧ bergC (bergU m n).1 (bergU m n).2.1 (bergU m n).2.2 = (m, n) ∧ (bergU m n).1 < m ∧ (bergU m n).2.1 ≤ n := by
  have h1 := h.h1
  have h2 := h.h2
  have h4 := h.h4
  have h5 := h.h5
  have e2 : m ≠ 2 * n := fun e => by have := gcd_mul 2 h1 e h5; omega
  have e3 : m ≠ 3 * n := fun e => by have := gcd_mul 3 h1 e h5; omega
  have sq : ∀ a b : Int, 1 ≤ b → b < a → a ≤ m → b ≤ n → a * a + b * b ≤ 1000000000 := by
    intro a b k1 k2 k3 k4
    have q1 : a * a ≤ m * m := Int.mul_le_mul k3 k3 (by omega) (by omega)
    have q2 : b * b ≤ n * n := Int.mul_le_mul k4 k4 (by omega) (by omega)
    have := h.h6
    omega
  have h7 := h.h7
  unfold bergU
  split
  · dsimp only
    refine ⟨⟨⟨by omega, by omega, by omega, by omega, ?_⟩, sq _ _ (by omega) (by omega) (by omega) (by omega), by omega⟩, ?_, by omega, by omega⟩
    · exact cop_parent 2 (-1) 1 0 (by omega) (by omega) h5
    · simp only [bergC, if_pos]; rw [Prod.mk.injEq]; omega
  · split
    · dsimp only
      refine ⟨⟨⟨by omega, by omega, by omega, by omega, ?_⟩, sq _ _ (by omega) (by omega) (by omega) (by omega), by omega⟩, ?_, by omega, by omega⟩
      · exact cop_parent 2 1 1 0 (by omega) (by omega) h5
      · simp [bergC]; omega
    · dsimp only
      refine ⟨⟨⟨by omega, by omega, by omega, by omega, ?_⟩, sq _ _ (by omega) (by omega) (by omega) (by omega), by omega⟩, ?_, by omega, by omega⟩
      · exact cop_parent 1 2 0 1 (by omega) (by omega) h5
      · simp [bergC]
theorem price_up {m n : Int} (h : Pair m n) (hm : 2 < m) : Pair (priceU m n).1 (priceU m n).2.1 ∧ priceC (priceU m n).1 (priceU m n).2.1 (priceU m n).2.2 = (m, n) ∧ (priceU m n).1 < m := by
  have h1 := h.h1
  have h2 := h.h2
  have h4 := h.h4
  have h5 := h.h5
  have e2 : m ≠ 2 * n := fun e => by have := gcd_mul 2 h1 e h5; omega
  have sq : ∀ a b : Int, 1 ≤ b → b < a → a + b ≤ m → a * a + b * b ≤ 1000000000 := by
    intro a b k1 k2 k3
    have q1 : (a + b) * (a + b) ≤ m * m := Int.mul_le_mul k3 k3 (by omega) (by omega)
    have q2 : (0 : Int) ≤ a * b := Int.mul_nonneg (by omega) (by omega)
    have q3 : (a + b) * (a + b) = a * a + b * b + 2 * (a * b) := by grind
    have q4 : (0 : Int) ≤ n * n := Int.mul_nonneg (by omega) (by omega)
    have := h.h6
    omega
  have h7 := h.h7
  unfold priceU
  split
  · dsimp only
    refine ⟨⟨⟨by omega, by omega, by omega, by omega, ?_⟩, sq _ _ (by omega) (by omega) (by omega), by omega⟩, ?_, by omega⟩
    · exact cop_parent 1 1 0 2 (by omega) (by omega) h5
    · simp only [priceC, if_pos]; rw [Prod.mk.injEq]; omega
  · split
    · dsimp only
      refine ⟨⟨⟨by omega, by omega, by omega, by omega, ?_⟩, sq _ _ (by omega) (by omega) (by omega), by omega⟩, ?_, by omega⟩
      · exact cop_parent 2 0 1 (-1) (by omega) (by omega) h5
      · simp [priceC]; omega
    · dsimp only
      refine ⟨⟨⟨by omega, by omega, by omega, by omega, ?_⟩, sq _ _ (by omega) (by omega) (by omega), by omega⟩, ?_, by omega⟩
      · exact cop_parent 2 0 1 1 (by omega) (by omega) h5
      · simp [priceC]; omega
end Go.Proofs.Ytdahhcigphhfdac
