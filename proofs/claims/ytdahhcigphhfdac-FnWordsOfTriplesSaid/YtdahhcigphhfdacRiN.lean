/- Ranks of words over three letters: arithmetic. -/
import Derived.Test.YtdahhcigphhfdacRiTT
namespace Go.Proofs.Ytdahhcigphhfdac
open Go.RowKit

def rankL (zs : List Int) : Int := zs.foldl (fun r k => 3 * r + 1 + k) 0
def valL (zs : List Int) : Int := zs.foldl (fun r k => 3 * r + k) 0
def tri (zs : List Int) : Prop := ∀ z ∈ zs, 0 ≤ z ∧ z ≤ 2
/-- The number of words that are shorter. -/
def shortN : Nat → Nat
  | 0 => 0
  | n + 1 => 3 * shortN n + 1
theorem short_pow (n : Nat) : 3 ^ n = 2 * shortN n + 1 := by
  induction n with
  | zero => rfl
  | succ n ih => rw [Nat.pow_succ, ih]; simp only [shortN]; omega
theorem short_half (n : Nat) : (3 ^ n - 1) / 2 = shortN n := by rw [short_pow]; omega
theorem rank_val (zs : List Int) : ∀ (r v : Int) (n : Nat), r = shortN n + v → zs.foldl (fun r k => 3 * r + 1 + k) r = shortN (n + zs.length) + zs.foldl (fun r k => 3 * r + k) v := by
  induction zs with
  | nil => intro r v n h; simpa using h
  | cons z zs ih =>
    intro r v n h
    rw [List.foldl_cons, List.foldl_cons, ih _ (3 * v + z) (n + 1) (by simp only [shortN]; omega), List.length_cons]
    congr 3
    omega
theorem rankL_eq (zs : List Int) : rankL zs = shortN zs.length + valL zs := by
  have := rank_val zs 0 0 0 (by simp [shortN])
  rw [Nat.zero_add] at this
  exact this
theorem rankL_snoc (zs : List Int) (k : Int) : rankL (zs ++ [k]) = 3 * rankL zs + 1 + k := by simp [rankL]
theorem valL_snoc (zs : List Int) (k : Int) : valL (zs ++ [k]) = 3 * valL zs + k := by simp [valL]
theorem valL_bd (zs : List Int) (h : tri zs) : 0 ≤ valL zs ∧ valL zs < (3 ^ zs.length : Nat) := by
  have key : ∀ (zs : List Int), tri zs → ∀ (v : Int) (n : Nat), 0 ≤ v → v < (3 ^ n : Nat) → 0 ≤ zs.foldl (fun r k => 3 * r + k) v ∧ zs.foldl (fun r k => 3 * r + k) v < (3 ^ (n + zs.length) : Nat) := by
    intro zs
    induction zs with
    | nil => intro _ v n h1 h2; exact ⟨h1, h2⟩
    | cons z zs ih =>
      intro ht v n h1 h2
      have hz := ht z (List.mem_cons_self ..)
      have := ih (fun x hx => ht x (List.mem_cons_of_mem _ hx)) (3 * v + z) (n + 1) (by omega) (by rw [Nat.pow_succ]; omega)
      rw [List.foldl_cons, List.length_cons, show n + (zs.length + 1) = n + 1 + zs.length by omega]
      exact this
  have := key zs h 0 0 (by omega) (by simp)
  rw [Nat.zero_add] at this
  exact this
theorem pow3_le {n : Nat} (h : n ≤ 20) : 3 ^ n ≤ 3486784401 := by
  have := Nat.pow_le_pow_right (show 0 < 3 by omega) h
  exact Nat.le_trans this (by decide)
theorem rankL_bd {zs : List Int} (h : tri zs) (hl : zs.length ≤ 20) : 0 ≤ rankL zs ∧ rankL zs ≤ 6000000000 := by
  obtain ⟨h1, h2⟩ := valL_bd zs h
  have h3 := pow3_le hl
  have h4 := short_pow zs.length
  rw [rankL_eq]
  omega

/-! ### the word of a rank -/

/-- The numbers of a word from its end on: the program's way. -/
def digF : Nat → Nat → List Int
  | 0, _ => []
  | f + 1, r => if r = 0 then [] else (((r - 1) % 3 : Nat) : Int) :: digF f ((r - 1) / 3)
/-- The model's way: so many digits. -/
def lowL : Nat → Nat → List Int
  | 0, _ => []
  | n + 1, x => ((x % 3 : Nat) : Int) :: lowL n (x / 3)
theorem lowL_len (n : Nat) : ∀ x, (lowL n x).length = n := by
  induction n with
  | zero => intro x; rfl
  | succ n ih => intro x; simp [lowL, ih]
theorem dig_low (n : Nat) : ∀ (f x : Nat), x < 3 ^ n → n ≤ f → digF f (shortN n + x) = lowL n x := by
  induction n with
  | zero =>
    intro f x hx _
    obtain rfl : x = 0 := by simpa using hx
    cases f <;> simp [digF, lowL, shortN]
  | succ n ih =>
    intro f x hx hf
    obtain ⟨g, rfl⟩ : ∃ g, f = g + 1 := ⟨f - 1, by omega⟩
    rw [Nat.pow_succ] at hx
    have e1 : (shortN (n + 1) + x - 1) % 3 = x % 3 := by simp only [shortN]; omega
    have e2 : (shortN (n + 1) + x - 1) / 3 = shortN n + x / 3 := by simp only [shortN]; omega
    have e0 : shortN (n + 1) + x ≠ 0 := by simp only [shortN]; omega
    unfold digF lowL
    rw [if_neg e0, e1, e2, ih g (x / 3) (by omega) (by omega)]
theorem short_le {m n : Nat} (h : m ≤ n) : shortN m ≤ shortN n := by
  have := Nat.pow_le_pow_right (show 0 < 3 by omega) h
  rw [short_pow, short_pow] at this
  omega
theorem short_lt (n : Nat) : n ≤ shortN n := by
  induction n with
  | zero => simp [shortN]
  | succ n ih => simp only [shortN]; omega
theorem short_at (r : Nat) : ∃ n, shortN n ≤ r ∧ r < shortN (n + 1) := by
  induction r with
  | zero => exact ⟨0, by simp [shortN]⟩
  | succ r ih =>
    obtain ⟨n, h1, h2⟩ := ih
    by_cases h : r + 1 < shortN (n + 1)
    · exact ⟨n, by omega, h⟩
    · exact ⟨n + 1, by omega, by simp only [shortN] at *; omega⟩
def rankW (n r : Nat) : List Int := (lowL n (r - shortN n)).reverse
theorem rank_rest {n r : Nat} (_h1 : shortN n ≤ r) (h2 : r < shortN (n + 1)) : r - shortN n < 3 ^ n := by
  rw [short_pow]; simp only [shortN] at h2; omega
theorem dig_rank {n r f : Nat} (h1 : shortN n ≤ r) (h2 : r < shortN (n + 1)) (hf : n ≤ f) : (digF f r).reverse = rankW n r := by
  have := dig_low n f (r - shortN n) (rank_rest h1 h2) hf
  rw [show shortN n + (r - shortN n) = r by omega] at this
  rw [this]; rfl
def wordRAns (r : Int) (n : Nat) : Option (List Int) := if 0 ≤ r ∧ n ≤ 18 then some (rankW n r.toNat) else none
theorem short19 : shortN 19 = 581130733 := by decide
end Go.Proofs.Ytdahhcigphhfdac
