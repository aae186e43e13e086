/- Jumping roots: pairs, jumps, runs, quotients: arithmetic. -/
import Derived.Test.YtdahhcigphhfdaaBasA
namespace Go.Proofs.Ytdahhcigphhfdaa
open Go.RowKit

abbrev Jp2 := Int × Int
def jpL (p : Jp2) : List Int := [p.1, p.2]
/-- What k and c must be. -/
def juW (k c : Int) : Bool := decide (1 ≤ k ∧ k ≤ 1000 ∧ -1000 ≤ c ∧ c ≤ 1000)
/-- Numbers as those of pairs. -/
def juN (x y : Int) : Bool := decide (0 ≤ y ∧ y ≤ x ∧ x ≤ 1000000)
def juS (x y k c : Int) : Bool := decide (x * x + y * y + c = k * x * y)
def juGd (x y k c : Int) : Bool := juN x y && juS x y k c
def juB (x y k c : Int) : Bool := juW k c && juGd x y k c
theorem juW_iff {k c : Int} : juW k c = true ↔ 1 ≤ k ∧ k ≤ 1000 ∧ -1000 ≤ c ∧ c ≤ 1000 := by simp [juW]
theorem juN_iff {x y : Int} : juN x y = true ↔ 0 ≤ y ∧ y ≤ x ∧ x ≤ 1000000 := by simp [juN]

/-- A jump down, and up. -/
def dnJ (k : Int) (p : Jp2) : Option Jp2 := if 0 ≤ k * p.2 - p.1 ∧ k * p.2 - p.1 < p.1 then some (if k * p.2 - p.1 < p.2 then (p.2, k * p.2 - p.1) else (k * p.2 - p.1, p.2)) else none
def upJ (k : Int) (p : Jp2) : Option Jp2 := if p.1 ≤ k * p.1 - p.2 ∧ k * p.1 - p.2 ≤ 1000000 then some (k * p.1 - p.2, p.1) else none
def jpN (p : Jp2) : Prop := 0 ≤ p.2 ∧ p.2 ≤ p.1 ∧ p.1 ≤ 1000000
theorem dnJ_good {k : Int} {p q : Jp2} (h : jpN p) (e : dnJ k p = some q) : jpN q ∧ q.1 + q.2 < p.1 + p.2 := by
  obtain ⟨x, y⟩ := p
  obtain ⟨h1, h2, h3⟩ := h
  unfold dnJ at e
  simp only at *
  split at e
  · rename_i hz
    injection e with e
    subst e
    generalize k * y - x = z at *
    split <;> refine ⟨⟨?_, ?_, ?_⟩, ?_⟩ <;> simp only <;> omega
  · cases e
theorem upJ_good {k : Int} {p q : Jp2} (h : jpN p) (e : upJ k p = some q) : jpN q := by
  obtain ⟨x, y⟩ := p
  obtain ⟨h1, h2, h3⟩ := h
  unfold upJ at e
  simp only at *
  split at e
  · rename_i hz
    injection e with e
    subst e
    refine ⟨?_, ?_, ?_⟩ <;> simp only <;> omega
  · cases e

/-- The pairs of a run, so many at most. -/
def runJ (f : Jp2 → Option Jp2) : Nat → Jp2 → List Jp2
  | 0, _ => []
  | n + 1, p => p :: (match f p with | none => [] | some q => runJ f n q)
theorem runJ_none {f : Jp2 → Option Jp2} {n : Nat} {p : Jp2} (h : f p = none) : runJ f (n + 1) p = [p] := by simp [runJ, h]
theorem runJ_some {f : Jp2 → Option Jp2} {n : Nat} {p q : Jp2} (h : f p = some q) : runJ f (n + 1) p = p :: runJ f n q := by simp [runJ, h]
theorem runJ_len (f : Jp2 → Option Jp2) : ∀ (n : Nat) (p : Jp2), (runJ f n p).length ≤ n
  | 0, _ => by simp [runJ]
  | n + 1, p => by
    cases h : f p with
    | none => rw [runJ_none h]; simp
    | some q => rw [runJ_some h, List.length_cons]; have := runJ_len f n q; omega
theorem runJ_pos (f : Jp2 → Option Jp2) (n : Nat) (p : Jp2) : 1 ≤ (runJ f (n + 1) p).length := by simp [runJ]
theorem runJ_more (f : Jp2 → Option Jp2) : ∀ (n m : Nat) (p : Jp2), (runJ f n p).length < n → n ≤ m → runJ f m p = runJ f n p
  | 0, _, _, h, _ => by omega
  | n + 1, 0, _, _, h => by omega
  | n + 1, m + 1, p, h, hm => by
    cases hf : f p with
    | none => rw [runJ_none hf, runJ_none hf]
    | some q =>
      rw [runJ_some hf] at h ⊢
      rw [runJ_some hf, runJ_more f n m q (by simp at h; omega) (by omega)]

/-- The least pair. -/
def leastJ (k : Int) : Nat → Jp2 → Jp2
  | 0, p => p
  | n + 1, p => match dnJ k p with | none => p | some q => leastJ k n q
theorem leastJ_none {k : Int} {p : Jp2} (h : dnJ k p = none) (n : Nat) : leastJ k n p = p := by
  cases n with
  | zero => rfl
  | succ n => simp [leastJ, h]
theorem leastJ_some {k : Int} {p q : Jp2} (h : dnJ k p = some q) (n : Nat) : leastJ k (n + 1) p = leastJ k n q := by simp [leastJ, h]
def leastOf (k : Int) (p : Jp2) : Jp2 := leastJ k (p.1 + p.2).toNat p

/-! ### the answers -/
def dnAns (x y k c : Int) : Option Jp2 := if juB x y k c = true then dnJ k (x, y) else none
def upAns8 (x y k c : Int) : Option Jp2 := if juB x y k c = true then upJ k (x, y) else none
def isjAns (x y k c : Int) : Option Bool := if juW k c = true then some (juGd x y k c) else none
def leastAns (x y k c : Int) : Option Jp2 := if juB x y k c = true then some (leastOf k (x, y)) else none
def dnRun (k : Int) (p : Jp2) : List Jp2 := runJ (dnJ k) 1001 p
def toldJ (L : List Jp2) : Option (List (List Int)) := if L.length ≤ 1000 then some (L.map jpL) else none
def descAns (x y k c : Int) : Option (List (List Int)) := if juB x y k c = true then toldJ (dnRun k (x, y)) else none
def upRun (k : Int) (n : Nat) (p : Jp2) : List Jp2 := runJ (upJ k) n p
def ascAns (x y k c s : Int) : Option (List (List Int)) := if juB x y k c = true ∧ 0 ≤ s ∧ s ≤ 40 ∧ s < (upRun k (s.toNat + 1) (x, y)).length then some ((upRun k (s.toNat + 1) (x, y)).map jpL) else none

/-! ### the k of a pair -/
def kOf (x y c : Int) : Option Int := if 1 ≤ y ∧ juN x y = true ∧ -1000 ≤ c ∧ c ≤ 1000 ∧ (x * x + y * y + c).tmod (x * y) = 0 ∧ 1 ≤ (x * x + y * y + c).tdiv (x * y) ∧ (x * x + y * y + c).tdiv (x * y) ≤ 1000 then some ((x * x + y * y + c).tdiv (x * y)) else none
/-! ### quotients -/
def quoJ (a b : Int) : Option Int := if 0 ≤ a ∧ a ≤ 1000000 ∧ 0 ≤ b ∧ b ≤ 1000000 ∧ ¬ (a = 0 ∧ b = 0) ∧ (a * a + b * b).tmod (a * b + 1) = 0 then some ((a * a + b * b).tdiv (a * b + 1)) else none
theorem sqBd {x : Int} (h : 0 ≤ x ∧ x ≤ 1000000) : 0 ≤ x * x ∧ x * x ≤ 1000000000000 := by
  have h1 := Int.mul_nonneg h.1 h.1
  have h2 := Int.mul_le_mul h.2 h.2 h.1 (by omega)
  omega
theorem mulBd {x y : Int} {a b : Int} (hx : 0 ≤ x ∧ x ≤ a) (hy : 0 ≤ y ∧ y ≤ b) (ha : 0 ≤ a) : 0 ≤ x * y ∧ x * y ≤ a * b := by
  exact ⟨Int.mul_nonneg hx.1 hy.1, Int.mul_le_mul hx.2 hy.2 hy.1 ha⟩
theorem dvd_tdiv (s d : Int) : s.tmod d = 0 ↔ s.tdiv d * d = s := by
  have h := Int.tmod_add_mul_tdiv s d
  rw [Int.mul_comm d] at h
  omega
theorem tmodBd {s d m : Int} (h : -m ≤ s ∧ s ≤ m) : -m ≤ s.tmod d ∧ s.tmod d ≤ m := by
  have h1 : (s.tmod d).natAbs ≤ s.natAbs := by rw [Int.natAbs_tmod]; exact Nat.mod_le _ _
  omega
theorem tdivBd {s d m : Int} (h : -m ≤ s ∧ s ≤ m) : -m ≤ s.tdiv d ∧ s.tdiv d ≤ m := by
  have h1 : (s.tdiv d).natAbs ≤ s.natAbs := by rw [Int.natAbs_tdiv]; exact Nat.div_le_self _ _
  omega
theorem wrapEq {q : Int} (h : -9223372036854775808 ≤ q ∧ q ≤ 9223372036854775807) : IntKind.i64.wrap q = q := by
  rw [IntWalk.i64_left]; exact IntWalk.wrap64_in _ (by omega)
theorem kOf_eq {x y c : Int} (hy : 1 ≤ y) (hN : juN x y = true) (hc : -1000 ≤ c ∧ c ≤ 1000) :
    kOf x y c = if (x * x + y * y + c).tmod (x * y) = 0 ∧ 1 ≤ (x * x + y * y + c).tdiv (x * y) ∧ (x * x + y * y + c).tdiv (x * y) ≤ 1000 then some ((x * x + y * y + c).tdiv (x * y)) else none := by
  unfold kOf
  obtain ⟨c1, c2⟩ := hc
  simp only [hy, hN, c1, c2, true_and]
theorem quoJ_eq {a b : Int} (ha : 0 ≤ a ∧ a ≤ 1000000) (hb : 0 ≤ b ∧ b ≤ 1000000) (h : ¬ (a = 0 ∧ b = 0)) : quoJ a b = if (a * a + b * b).tmod (a * b + 1) = 0 then some ((a * a + b * b).tdiv (a * b + 1)) else none := by
  unfold quoJ
  obtain ⟨a1, a2⟩ := ha
  obtain ⟨b1, b2⟩ := hb
  simp only [a1, a2, b1, b2, h, true_and, not_false_iff]
end Go.Proofs.Ytdahhcigphhfdaa
