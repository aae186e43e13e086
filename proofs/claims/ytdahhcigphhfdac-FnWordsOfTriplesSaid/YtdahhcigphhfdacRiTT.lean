/- Ri, RiT: in one text. -/
import Derived.Test.YtdahhcigphhfdacRoot
namespace Go.Proofs.Ytdahhcigphhfdac
open Go.RowKit


theorem gcdF_eq (k : Nat) : ∀ a b : Int, b.natAbs < k → gcdF k a b = (Int.gcd a b : Int) := by
  induction k with
  | zero => intro a b h; omega
  | succ k ih =>
    intro a b h
    unfold gcdF
    split
    · rename_i h0
      subst h0
      unfold maxI
      simp only [Int.gcd_zero_right]
      split <;> omega
    · rename_i h0
      have := tmod_lt a b h0
      rw [ih b _ (by omega)]
      congr 1
      unfold Int.gcd
      rw [Int.natAbs_tmod, Nat.gcd_comm, ← Nat.gcd_rec, Nat.gcd_comm]
theorem gcdW_eq (a b : Int) : gcdW a b = (Int.gcd a b : Int) := gcdF_eq _ a b (by omega)

/-- What the program's isValid asks for. -/
def validB (m n : Int) : Bool := decide (1 ≤ n ∧ n < m ∧ m ≤ 1000000000 ∧ (m + n) % 2 = 1 ∧ gcdW m n = 1)
def pairB (m n : Int) : Bool := validB m n && decide (m * m + n * n ≤ 1000000000)
def sidesL (m n : Int) : List Int := [m * m - n * n, 2 * m * n, m * m + n * n]
def tripAns (m n : Int) : Option (List Int) := if pairB m n = true then some (sidesL m n) else none
structure Valid (m n : Int) : Prop where
  h1 : 1 ≤ n
  h2 : n < m
  h3 : m ≤ 1000000000
  h4 : (m + n) % 2 = 1
  h5 : gcdW m n = 1
structure Pair (m n : Int) : Prop extends Valid m n where
  h6 : m * m + n * n ≤ 1000000000
  h7 : m ≤ 31622
theorem validB_iff {m n : Int} : validB m n = true ↔ Valid m n := by
  unfold validB
  rw [decide_eq_true_eq]
  exact ⟨fun ⟨a, b, c, d, e⟩ => ⟨a, b, c, d, e⟩, fun ⟨a, b, c, d, e⟩ => ⟨a, b, c, d, e⟩⟩
theorem sq_le_of {m n : Int} (h1 : 1 ≤ n) (_h2 : n < m) (h : m * m + n * n ≤ 1000000000) : m ≤ 31622 := by
  apply Int.le_of_not_gt
  intro hc
  have p1 : (31623 : Int) * 31623 ≤ m * m := Int.mul_le_mul (by omega) (by omega) (by omega) (by omega)
  have p2 : (0 : Int) ≤ n * n := Int.mul_nonneg (by omega) (by omega)
  omega
theorem pairB_iff {m n : Int} : pairB m n = true ↔ Pair m n := by
  unfold pairB
  rw [Bool.and_eq_true, validB_iff, decide_eq_true_eq]
  exact ⟨fun ⟨a, b⟩ => ⟨a, b, sq_le_of a.h1 a.h2 b⟩, fun a => ⟨a.toValid, a.h6⟩⟩
theorem Pair.yes {m n : Int} (h : Pair m n) : pairB m n = true := pairB_iff.2 h
theorem tripAns_yes {m n : Int} (h : Pair m n) : tripAns m n = some (sidesL m n) := if_pos h.yes
theorem tripAns_no {m n : Int} (h : pairB m n = false) : tripAns m n = none := if_neg (by rw [h]; simp)
theorem pair21 : Pair 2 1 := pairB_iff.1 (by decide)

/-- bounds of the products of a pair -/
theorem Pair.prods {m n : Int} (h : Pair m n) : n * n < m * m ∧ 1 ≤ n * n ∧ m * m ≤ 999950884 ∧ n ≤ m * n ∧ m * n ≤ m * m ∧ 2 * m * n = 2 * (m * n) ∧ n * m = m * n := by
  obtain ⟨⟨h1, h2, h3, h4, h5⟩, h6, h7⟩ := h
  have p1 : (1 : Int) * 1 ≤ n * n := Int.mul_le_mul (by omega) (by omega) (by omega) (by omega)
  have p2 : n * n ≤ (m - 1) * (m - 1) := Int.mul_le_mul (by omega) (by omega) (by omega) (by omega)
  have p3 : m * m ≤ 31622 * 31622 := Int.mul_le_mul (by omega) (by omega) (by omega) (by omega)
  have p4 : (1 : Int) * n ≤ m * n := Int.mul_le_mul (by omega) (by omega) (by omega) (by omega)
  have p5 : m * n ≤ m * m := Int.mul_le_mul (by omega) (by omega) (by omega) (by omega)
  have p6 : (m - 1) * (m - 1) = m * m - 2 * m + 1 := by grind
  have p7 : 2 * m * n = 2 * (m * n) := by grind
  have p8 : n * m = m * n := Int.mul_comm _ _
  omega

theorem root_sq {m : Int} (h : 0 ≤ m) (q : Int) (hq : q = m * m) : (rootN q.toNat : Int) = m := by
  subst hq
  obtain ⟨k, rfl⟩ : ∃ k : Nat, m = (k : Int) := ⟨m.toNat, by omega⟩
  have : ((k : Int) * (k : Int)).toNat = k * k := by rw [← Int.natCast_mul, Int.toNat_natCast]
  rw [this, rootN_eq (k * k) k (Nat.le_refl _) (by rw [Nat.mul_add, Nat.add_mul]; omega)]

def backM (t : List Int) : Int := rootN (((t.getD 2 0 + t.getD 0 0) / 2).toNat)
def backN (t : List Int) : Int := rootN (((t.getD 2 0 - t.getD 0 0) / 2).toNat)
/-- The pair of a right triple. -/
def rightP (t : List Int) : Option (Int × Int) :=
  if t.length = 3 ∧ pairB (backM t) (backN t) = true ∧ sidesL (backM t) (backN t) = t then some (backM t, backN t) else none
theorem back_sides {m n : Int} (h : Pair m n) : backM (sidesL m n) = m ∧ backN (sidesL m n) = n := by
  obtain ⟨p1, p2, p3, p4, p5, p6, p7⟩ := h.prods
  have h1 := h.h1
  have h2 := h.h2
  unfold backM backN sidesL
  simp only [List.getD_cons_zero, List.getD_cons_succ]
  exact ⟨root_sq (by omega) _ (by omega), root_sq (by omega) _ (by omega)⟩
theorem right_sides {m n : Int} (h : Pair m n) : rightP (sidesL m n) = some (m, n) := by
  obtain ⟨h1, h2⟩ := back_sides h
  unfold rightP
  rw [h1, h2, if_pos ⟨rfl, h.yes, rfl⟩]
theorem right_some {t : List Int} {m n : Int} (h : rightP t = some (m, n)) : Pair m n ∧ t = sidesL m n := by
  unfold rightP at h
  split at h
  · rename_i hc
    simp only [Option.some.injEq, Prod.mk.injEq] at h
    obtain ⟨rfl, rfl⟩ := h
    exact ⟨pairB_iff.1 hc.2.1, hc.2.2.symm⟩
  · cases h
/-- Any pair whose triple this is, is the one. -/
theorem right_only {t : List Int} {m n : Int} (h : Pair m n) (ht : sidesL m n = t) : rightP t = some (m, n) := by rw [← ht]; exact right_sides h

theorem cop_parent {a b m n : Int} (p q r s : Int) (h1 : m = p * a + q * b) (h2 : n = r * a + s * b) (h : gcdW m n = 1) : gcdW a b = 1 := by
  rw [gcdW_eq] at h ⊢
  have ha : (Int.gcd a b : Int) ∣ a := Int.gcd_dvd_left a b
  have hb : (Int.gcd a b : Int) ∣ b := Int.gcd_dvd_right a b
  have d1 : (Int.gcd a b : Int) ∣ m := by rw [h1]; exact Int.dvd_add (Int.dvd_mul_of_dvd_right ha) (Int.dvd_mul_of_dvd_right hb)
  have d2 : (Int.gcd a b : Int) ∣ n := by rw [h2]; exact Int.dvd_add (Int.dvd_mul_of_dvd_right ha) (Int.dvd_mul_of_dvd_right hb)
  have d3 := Int.dvd_coe_gcd d1 d2
  rw [h] at d3
  have : Int.gcd a b ∣ 1 := by exact_mod_cast d3
  have := Nat.dvd_one.1 this
  omega
theorem gcd_mul {m n : Int} (k : Int) (h1 : 1 ≤ n) (h : m = k * n) (hg : gcdW m n = 1) : n = 1 := by
  rw [gcdW_eq] at hg
  have d : (n : Int) ∣ (Int.gcd m n : Int) := Int.dvd_coe_gcd (by rw [h]; exact Int.dvd_mul_left _ _) (Int.dvd_refl _)
  rw [hg] at d
  have := Int.le_of_dvd (by omega) d
  omega

/-! ### children and parents -/

def bergC (m n k : Int) : Int × Int := if k = 0 then (2 * m - n, m) else if k = 1 then (2 * m + n, m) else (m + 2 * n, n)
def priceC (m n k : Int) : Int × Int := if k = 0 then (m + n, 2 * n) else if k = 1 then (2 * m, m - n) else (2 * m, m + n)
def bergU (m n : Int) : Int × Int × Int := if m < 2 * n then (n, 2 * n - m, 0) else if m < 3 * n then (n, m - 2 * n, 1) else (m - 2 * n, n, 2)
def priceU (m n : Int) : Int × Int × Int := if n % 2 = 0 then (m - n / 2, n / 2, 0) else if 2 * n < m then (m / 2, m / 2 - n, 1) else (m / 2, n - m / 2, 2)
theorem pair_small {m n : Int} (h : Pair m n) : m ≤ 2 ↔ m = 2 ∧ n = 1 := by
  have h1 := h.h1
  have h2 := h.h2
  omega
theorem berg_up {m n : Int} (h : Pair m n) (hm : 2 < m) : Pair (bergU m n).1 (bergU m n).2.1 ∧ bergC (bergU m n).1 (bergU m n).2.1 (bergU m n).2.2 = (m, n) ∧ (bergU m n).1 < m ∧ (bergU m n).2.1 ≤ n := by
  have h1 := h.h1
  have h2 := h.h2
  have h4 := h.h4
  have h5 := h.h5
  have e2 : m ≠ 2 * n := fun e => by have := gcd_mul 2 h1 e h5; omega
  have e3 : m ≠ 3 * n := fun e => by have := gcd_mul 3 h1 e h5; omega
  have sq : ∀ a b : Int, 1 ≤ b → b < a → a ≤ m → b ≤ n → a * a + b * b ≤ 1000000000 := by
    intro a b k1 k2 k3 k4
    have q1 : a * a ≤ m * m := Int.mul_le_mul k3 k3 (by omega) (by omega)
    have q2 : b * b ≤ n * n := Int.mul_le_mul k4 k4 (by omega) (by omega)
    have := h.h6
    omega
  have h7 := h.h7
  unfold bergU
  split
  · dsimp only
    refine ⟨⟨⟨by omega, by omega, by omega, by omega, ?_⟩, sq _ _ (by omega) (by omega) (by omega) (by omega), by omega⟩, ?_, by omega, by omega⟩
    · exact cop_parent 2 (-1) 1 0 (by omega) (by omega) h5
    · simp only [bergC, if_pos]; rw [Prod.mk.injEq]; omega
  · split
    · dsimp only
      refine ⟨⟨⟨by omega, by omega, by omega, by omega, ?_⟩, sq _ _ (by omega) (by omega) (by omega) (by omega), by omega⟩, ?_, by omega, by omega⟩
      · exact cop_parent 2 1 1 0 (by omega) (by omega) h5
      · simp [bergC]; omega
    · dsimp only
      refine ⟨⟨⟨by omega, by omega, by omega, by omega, ?_⟩, sq _ _ (by omega) (by omega) (by omega) (by omega), by omega⟩, ?_, by omega, by omega⟩
      · exact cop_parent 1 2 0 1 (by omega) (by omega) h5
      · simp [bergC]
theorem price_up {m n : Int} (h : Pair m n) (hm : 2 < m) : Pair (priceU m n).1 (priceU m n).2.1 ∧ priceC (priceU m n).1 (priceU m n).2.1 (priceU m n).2.2 = (m, n) ∧ (priceU m n).1 < m := by
  have h1 := h.h1
  have h2 := h.h2
  have h4 := h.h4
  have h5 := h.h5
  have e2 : m ≠ 2 * n := fun e => by have := gcd_mul 2 h1 e h5; omega
  have sq : ∀ a b : Int, 1 ≤ b → b < a → a + b ≤ m → a * a + b * b ≤ 1000000000 := by
    intro a b k1 k2 k3
    have q1 : (a + b) * (a + b) ≤ m * m := Int.mul_le_mul k3 k3 (by omega) (by omega)
    have q2 : (0 : Int) ≤ a * b := Int.mul_nonneg (by omega) (by omega)
    have q3 : (a + b) * (a + b) = a * a + b * b + 2 * (a * b) := by grind
    have q4 : (0 : Int) ≤ n * n := Int.mul_nonneg (by omega) (by omega)
    have := h.h6
    omega
  have h7 := h.h7
  unfold priceU
  split
  · dsimp only
    refine ⟨⟨⟨by omega, by omega, by omega, by omega, ?_⟩, sq _ _ (by omega) (by omega) (by omega), by omega⟩, ?_, by omega⟩
    · exact cop_parent 1 1 0 2 (by omega) (by omega) h5
    · simp only [priceC, if_pos]; rw [Prod.mk.injEq]; omega
  · split
    · dsimp only
      refine ⟨⟨⟨by omega, by omega, by omega, by omega, ?_⟩, sq _ _ (by omega) (by omega) (by omega), by omega⟩, ?_, by omega⟩
      · exact cop_parent 2 0 1 (-1) (by omega) (by omega) h5
      · simp [priceC]; omega
    · dsimp only
      refine ⟨⟨⟨by omega, by omega, by omega, by omega, ?_⟩, sq _ _ (by omega) (by omega) (by omega), by omega⟩, ?_, by omega⟩
      · exact cop_parent 2 0 1 1 (by omega) (by omega) h5
      · simp [priceC]; omega


/-- A step from a pair to a child. -/
structure St where
  a : Int
  b : Int
  c : Int
  d : Int
def St.det (s : St) : Int := s.a * s.d - s.b * s.c
def kid (s : St) (m n : Int) : Int × Int := (s.a * m + s.b * n, s.c * m + s.d * n)
def bef (s : St) (m n : Int) : Int × Int := ((s.d * m - s.b * n).tdiv s.det, (s.a * n - s.c * m).tdiv s.det)
def okB (s : St) (m n : Int) : Bool := validB (bef s m n).1 (bef s m n).2 && decide (kid s (bef s m n).1 (bef s m n).2 = (m, n))
theorem bef_kid {s : St} {a b m n : Int} (hd : s.det ≠ 0) (h : kid s a b = (m, n)) : bef s m n = (a, b) := by
  unfold kid at h
  rw [Prod.mk.injEq] at h
  obtain ⟨rfl, rfl⟩ := h
  unfold bef
  have e1 : s.d * (s.a * a + s.b * b) - s.b * (s.c * a + s.d * b) = s.det * a := by unfold St.det; grind
  have e2 : s.a * (s.c * a + s.d * b) - s.c * (s.a * a + s.b * b) = s.det * b := by unfold St.det; grind
  rw [e1, e2, Int.mul_tdiv_cancel_left _ hd, Int.mul_tdiv_cancel_left _ hd]
theorem okB_kid {s : St} {a b m n : Int} (hd : s.det ≠ 0) (h : kid s a b = (m, n)) (hv : Valid a b) : okB s m n = true := by
  unfold okB
  rw [bef_kid hd h, validB_iff.2 hv, h]
  simp
theorem okB_some {s : St} {m n : Int} (h : okB s m n = true) : Valid (bef s m n).1 (bef s m n).2 ∧ kid s (bef s m n).1 (bef s m n).2 = (m, n) := by
  unfold okB at h
  rw [Bool.and_eq_true, validB_iff, decide_eq_true_eq] at h
  exact h

/-- What both trees have. -/
structure Tree (T : Nat → St) (C : Int → Int → Int → Int × Int) (U : Int → Int → Int × Int × Int) : Prop where
  ent : ∀ k, -2 ≤ (T k).a ∧ (T k).a ≤ 2 ∧ -2 ≤ (T k).b ∧ (T k).b ≤ 2 ∧ -2 ≤ (T k).c ∧ (T k).c ≤ 2 ∧ -2 ≤ (T k).d ∧ (T k).d ≤ 2
  det : ∀ k, (T k).det ≠ 0
  kid : ∀ (k : Nat) m n, k < 3 → kid (T k) m n = C m n k
  up : ∀ m n, Pair m n → 2 < m → Pair (U m n).1 (U m n).2.1 ∧ C (U m n).1 (U m n).2.1 (U m n).2.2 = (m, n) ∧ (U m n).1 < m
  idx : ∀ m n, 0 ≤ (U m n).2.2 ∧ (U m n).2.2 < 3
  only : ∀ (k : Nat) a b, k < 3 → Valid a b → U (C a b k).1 (C a b k).2 = (a, b, (k : Int)) ∧ 2 < (C a b k).1
def bergT : Nat → St
  | 0 => ⟨2, -1, 1, 0⟩
  | 1 => ⟨2, 1, 1, 0⟩
  | _ => ⟨1, 2, 0, 1⟩
def priceT : Nat → St
  | 0 => ⟨1, 1, 0, 2⟩
  | 1 => ⟨2, 0, 1, -1⟩
  | _ => ⟨2, 0, 1, 1⟩
theorem three {p : Nat → Prop} (h0 : p 0) (h1 : p 1) (h2 : ∀ k, p (k + 2)) : ∀ k, p k
  | 0 => h0
  | 1 => h1
  | k + 2 => h2 k
theorem treeBerg : Tree bergT bergC bergU where
  ent := three (by simp [bergT]) (by simp [bergT]) (fun k => by simp [bergT])
  det := three (by simp [bergT, St.det]) (by simp [bergT, St.det]) (fun k => by simp [bergT, St.det])
  kid := by
    refine three (fun m n _ => ?_) (fun m n _ => ?_) (fun k m n hk => ?_)
    · simp [kid, bergT, bergC]; omega
    · simp [kid, bergT, bergC]
    · obtain rfl : k = 0 := by omega
      simp [kid, bergT, bergC]
  up := fun m n h hm => ⟨(berg_up h hm).1, (berg_up h hm).2.1, (berg_up h hm).2.2.1⟩
  idx := fun m n => by
    unfold bergU
    split
    · simp
    · split <;> (simp)
  only := by
    refine three (fun a b _ h => ?_) (fun a b _ h => ?_) (fun k a b hk h => ?_)
    · have h1 := h.h1
      have h2 := h.h2
      simp only [bergC, Int.natCast_zero, if_pos, bergU]
      rw [if_pos (by omega)]
      exact ⟨by simp <;> omega, by omega⟩
    · have h1 := h.h1
      have h2 := h.h2
      simp only [bergC, bergU, Int.natCast_one, Int.one_ne_zero, if_false, if_true]
      rw [if_neg (by omega), if_pos (by omega)]
      exact ⟨by simp <;> omega, by omega⟩
    · obtain rfl : k = 0 := by omega
      have h1 := h.h1
      have h2 := h.h2
      have e : bergC a b ((0 + 2 : Nat) : Int) = (a + 2 * b, b) := by simp [bergC]
      rw [e]
      simp only [bergU]
      rw [if_neg (by omega), if_neg (by omega)]
      exact ⟨by simp, by omega⟩
theorem treePrice : Tree priceT priceC priceU where
  ent := three (by simp [priceT]) (by simp [priceT]) (fun k => by simp [priceT])
  det := three (by simp [priceT, St.det]) (by simp [priceT, St.det]) (fun k => by simp [priceT, St.det])
  kid := by
    refine three (fun m n _ => ?_) (fun m n _ => ?_) (fun k m n hk => ?_)
    · simp [kid, priceT, priceC]
    · simp [kid, priceT, priceC]; omega
    · obtain rfl : k = 0 := by omega
      simp [kid, priceT, priceC]
  up := fun m n h hm => price_up h hm
  idx := fun m n => by
    unfold priceU
    split
    · simp
    · split <;> (simp)
  only := by
    refine three (fun a b _ h => ?_) (fun a b _ h => ?_) (fun k a b hk h => ?_)
    · have h1 := h.h1
      have h2 := h.h2
      simp only [priceC, Int.natCast_zero, if_pos, priceU]
      rw [if_pos (by omega)]
      exact ⟨by simp <;> omega, by omega⟩
    · have h1 := h.h1
      have h2 := h.h2
      have h4 := h.h4
      simp only [priceC, priceU, Int.natCast_one, Int.one_ne_zero, if_false, if_true]
      rw [if_neg (by omega), if_pos (by omega)]
      exact ⟨by simp <;> omega, by omega⟩
    · obtain rfl : k = 0 := by omega
      have h1 := h.h1
      have h2 := h.h2
      have h4 := h.h4
      have e : priceC a b ((0 + 2 : Nat) : Int) = (2 * a, a + b) := by simp [priceC]
      rw [e]
      simp only [priceU]
      rw [if_neg (by omega), if_neg (by omega)]
      exact ⟨by simp <;> omega, by omega⟩

section
variable {T : Nat → St} {C : Int → Int → Int → Int × Int} {U : Int → Int → Int × Int × Int}
/-- One step alone leads back. -/
theorem Tree.ok_only (t : Tree T C U) {m n : Int} {k : Nat} (hk : k < 3) (h : okB (T k) m n = true) : U m n = ((bef (T k) m n).1, (bef (T k) m n).2, (k : Int)) ∧ 2 < m := by
  obtain ⟨hv, he⟩ := okB_some h
  have := t.only k _ _ hk hv
  rw [← t.kid k _ _ hk, he] at this
  exact this
theorem Tree.none (t : Tree T C U) {m n : Int} (hm : m ≤ 2) (j : Nat) (hj : j < 3) : okB (T j) m n = false := by
  cases h : okB (T j) m n
  · rfl
  · have := (t.ok_only hj h).2; omega
theorem Tree.some (t : Tree T C U) {m n : Int} (h : Pair m n) (hm : 2 < m) : ∃ k : Nat, k < 3 ∧ (U m n).2.2 = (k : Int) ∧ bef (T k) m n = ((U m n).1, (U m n).2.1) ∧ okB (T k) m n = true ∧ ∀ j, j < k → okB (T j) m n = false := by
  obtain ⟨i1, i2⟩ := t.idx m n
  obtain ⟨k, hk⟩ : ∃ k : Nat, (U m n).2.2 = (k : Int) := ⟨(U m n).2.2.toNat, by omega⟩
  obtain ⟨u1, u2, u3⟩ := t.up m n h hm
  have hk3 : k < 3 := by omega
  rw [hk, ← t.kid k _ _ hk3] at u2
  refine ⟨k, hk3, hk, bef_kid (t.det k) u2, okB_kid (t.det k) u2 u1.toValid, fun j hj => ?_⟩
  cases h2 : okB (T j) m n
  · rfl
  · have := (t.ok_only (by omega) h2).1
    rw [this] at hk
    simp only at hk
    omega

/-! ### words -/

/-- The numbers of the children on the way from a pair to the root. -/
def riwF (U : Int → Int → Int × Int × Int) : Nat → Int → Int → List Int
  | 0, _, _ => []
  | f + 1, m, n => if m ≤ 2 then [] else (U m n).2.2 :: riwF U f (U m n).1 (U m n).2.1
def riwL (U : Int → Int → Int × Int × Int) (m n : Int) : List Int := riwF U m.toNat m n
theorem Tree.riwF_eq (t : Tree T C U) (f : Nat) : ∀ (g : Nat) (m n : Int), Pair m n → m.toNat ≤ f → m.toNat ≤ g → riwF U f m n = riwF U g m n := by
  induction f with
  | zero => intro g m n h hf; have := h.h1; have := h.h2; omega
  | succ f ih =>
    intro g m n h hf hg
    cases g with
    | zero => have := h.h1; have := h.h2; omega
    | succ g =>
      unfold riwF
      split
      · rfl
      · rename_i hm
        obtain ⟨u1, _, u3⟩ := t.up m n h (by omega)
        rw [ih g _ _ u1 (by omega) (by omega)]
theorem Tree.riwL_step (t : Tree T C U) {m n : Int} (h : Pair m n) (hm : 2 < m) : riwL U m n = (U m n).2.2 :: riwL U (U m n).1 (U m n).2.1 := by
  obtain ⟨u1, _, u3⟩ := t.up m n h hm
  obtain ⟨f, hf⟩ : ∃ f, m.toNat = f + 1 := ⟨m.toNat - 1, by omega⟩
  unfold riwL
  rw [hf]
  show (if m ≤ 2 then [] else _) = _
  rw [if_neg (by omega), t.riwF_eq f (U m n).1.toNat _ _ u1 (by omega) (Nat.le_refl _)]
theorem riwL_root (m n : Int) (hm : m ≤ 2) : riwL U m n = [] := by
  unfold riwL
  cases m.toNat with
  | zero => rfl
  | succ f => show (if m ≤ 2 then [] else _) = _; rw [if_pos hm]
end

/-- The pair behind the children of a word, if all triples on the way are such. -/
def foldP (C : Int → Int → Int → Int × Int) : List Int → Int → Int → Option (Int × Int)
  | [], m, n => some (m, n)
  | k :: ks, m, n => if pairB (C m n k).1 (C m n k).2 = true then foldP C ks (C m n k).1 (C m n k).2 else none
end Go.Proofs.Ytdahhcigphhfdac
