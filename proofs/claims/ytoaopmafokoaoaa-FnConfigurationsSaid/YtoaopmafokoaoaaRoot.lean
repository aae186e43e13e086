/- Contracts of RootOf and DivisorOf. -/
import Derived.Test.YtoaopmafokoaoaaBasB
namespace Go.Proofs.Ytoaopmafokoaoaa
open Go.RowKit

/-- The greatest number whose square is at most n. -/
def rootN : Nat → Nat
  | 0 => 0
  | n + 1 => if (rootN n + 1) * (rootN n + 1) ≤ n + 1 then rootN n + 1 else rootN n
theorem rootN_spec (n : Nat) : rootN n * rootN n ≤ n ∧ n < (rootN n + 1) * (rootN n + 1) := by
  induction n with
  | zero => simp [rootN]
  | succ n ih =>
    unfold rootN
    split
    · rename_i h
      refine ⟨h, ?_⟩
      have h1 : (rootN n + 1 + 1) * (rootN n + 1 + 1) = (rootN n + 1) * (rootN n + 1) + 2 * (rootN n + 1) + 1 := by
        rw [Nat.mul_add, Nat.add_mul, Nat.add_mul]; omega
      omega
    · rename_i h
      exact ⟨by omega, by omega⟩
theorem root_unique (n r s : Nat) (hr : r * r ≤ n) (hr2 : n < (r + 1) * (r + 1)) (hs : s * s ≤ n) (hs2 : n < (s + 1) * (s + 1)) : r = s := by
  rcases Nat.lt_trichotomy r s with h | h | h
  · have := Nat.mul_le_mul (show r + 1 ≤ s from h) (show r + 1 ≤ s from h); omega
  · exact h
  · have := Nat.mul_le_mul (show s + 1 ≤ r from h) (show s + 1 ≤ r from h); omega
theorem rootN_eq (n r : Nat) (h : r * r ≤ n) (h2 : n < (r + 1) * (r + 1)) : rootN n = r :=
  root_unique n _ _ (rootN_spec n).1 (rootN_spec n).2 h h2
def rootAns (n : Int) : Option Int := if 0 ≤ n ∧ n ≤ 1000000000000000000 then some (rootN n.toNat : Int) else none
theorem sq_lt_of (n k : Nat) (hn : n ≤ 1000000000000000000) (hk : 1000000001 ≤ k) : n < k * k := by
  have := Nat.mul_le_mul hk hk
  omega

/-! ### divisors -/

def maxI (a b : Int) : Int := if b < a then a else b
/-- The greatest common divisor by remainders as the program cuts them; the fuel is the second number's size and one. -/
def gcdF : Nat → Int → Int → Int
  | 0, a, _ => a
  | k + 1, a, b => if b = 0 then maxI a (-a) else gcdF k b (a.tmod b)
def gcdW (a b : Int) : Int := gcdF (b.natAbs + 1) a b
theorem tmod_lt (a b : Int) (hb : b ≠ 0) : (a.tmod b).natAbs < b.natAbs := by
  rw [Int.natAbs_tmod]
  exact Nat.mod_lt _ (Int.natAbs_pos.2 hb)
theorem gcdF_more (k : Nat) : ∀ (j : Nat) (a b : Int), b.natAbs < k → b.natAbs < j → gcdF k a b = gcdF j a b := by
  induction k with
  | zero => intro j a b h; omega
  | succ k ih =>
    intro j a b h1 h2
    cases j with
    | zero => omega
    | succ j =>
      unfold gcdF
      split
      · rfl
      · rename_i hb
        have := tmod_lt a b hb
        exact ih j b _ (by omega) (by omega)
theorem gcdW_zero (a : Int) : gcdW a 0 = maxI a (-a) := by simp [gcdW, gcdF]
theorem gcdW_step (a b : Int) (hb : b ≠ 0) : gcdW a b = gcdW b (a.tmod b) := by
  have h := tmod_lt a b hb
  unfold gcdW
  rw [show gcdF (b.natAbs + 1) a b = gcdF b.natAbs b (a.tmod b) by rw [gcdF, if_neg hb]]
  exact gcdF_more _ _ _ _ h (by omega)
def Mid (a : Int) : Prop := -1000000000 ≤ a ∧ a ≤ 1000000000
theorem tmod_mid (a b : Int) (_ha : Mid a) (hb : Mid b) (h0 : b ≠ 0) : Mid (a.tmod b) := by
  have h := tmod_lt a b h0
  unfold Mid at *
  omega
theorem gcdF_mid (k : Nat) : ∀ (a b : Int), Mid a → Mid b → Mid (gcdF k a b) := by
  induction k with
  | zero => intro a b ha _; exact ha
  | succ k ih =>
    intro a b ha hb
    unfold gcdF
    split
    · unfold maxI; split
      · exact ha
      · unfold Mid at *; omega
    · rename_i h0
      exact ih b _ hb (tmod_mid a b ha hb h0)
theorem gcdW_mid (a b : Int) (ha : Mid a) (hb : Mid b) : Mid (gcdW a b) := gcdF_mid _ a b ha hb

def gcdL (zs : List Int) : Int := zs.foldl gcdW 0
theorem gcdL_step (zs : List Int) (k : Nat) (h : k < zs.length) : gcdL (zs.take (k + 1)) = gcdW (gcdL (zs.take k)) (zs.getD k 0) := by
  unfold gcdL; rw [take_snoc zs k h, List.foldl_append, getD_at zs k h]; rfl
def divOK (zs : List Int) : Bool := zs.all (within (-1000000000) 1000000000)
theorem divOK_mid {zs : List Int} (h : divOK zs = true) (k : Nat) (hk : k < zs.length) : Mid (zs.getD k 0) := by
  unfold divOK at h
  rw [List.all_eq_true] at h
  have := h zs[k] (List.getElem_mem hk)
  simp only [within, Bool.and_eq_true, decide_eq_true_eq] at this
  rw [getD_at zs k hk]
  exact this
theorem gcdL_mid {zs : List Int} (h : divOK zs = true) (k : Nat) (hk : k ≤ zs.length) : Mid (gcdL (zs.take k)) := by
  induction k with
  | zero => simp [gcdL, Mid]
  | succ k ih => rw [gcdL_step zs k hk]; exact gcdW_mid _ _ (ih (by omega)) (divOK_mid h k hk)
def divAns (zs : List Int) : Option Int := if zs.length ≤ 40 ∧ divOK zs = true then some (gcdL zs) else none

end Go.Proofs.Ytoaopmafokoaoaa
