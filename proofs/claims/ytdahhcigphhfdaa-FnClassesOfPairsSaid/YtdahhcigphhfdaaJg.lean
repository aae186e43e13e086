/- Pairs up to a bound in order. -/
import Derived.Test.YtdahhcigphhfdaaJp
namespace Go.Proofs.Ytdahhcigphhfdaa
open Go.RowKit

def rowJ (x n : Nat) : List Jp2 := (List.range n).map fun (y : Nat) => ((x : Int), (y : Int))
def gridJ (n : Nat) : List Jp2 := (List.range n).flatMap fun x => rowJ x (x + 1)
theorem rowJ_zero (x : Nat) : rowJ x 0 = [] := rfl
theorem gridJ_zero : gridJ 0 = [] := rfl
theorem rowJ_succ (x n : Nat) : rowJ x (n + 1) = rowJ x n ++ [((x : Int), (n : Int))] := by
  unfold rowJ
  rw [List.range_succ, List.map_append]
  rfl
theorem gridJ_succ (n : Nat) : gridJ (n + 1) = gridJ n ++ rowJ n (n + 1) := by
  unfold gridJ
  rw [List.range_succ, List.flatMap_append]
  simp
theorem rowJ_len (x n : Nat) : (rowJ x n).length = n := by simp [rowJ]
theorem gridJ_len (n : Nat) : (gridJ n).length ≤ n * 300 ∨ 300 < n := by
  induction n with
  | zero => left; simp [gridJ]
  | succ n ih =>
    rcases ih with ih | ih
    · by_cases h : n + 1 ≤ 300
      · left; rw [gridJ_succ, List.length_append, rowJ_len]; omega
      · right; omega
    · right; omega
theorem seenJ_len {n m : Nat} (hn : n ≤ 201) (hm : m ≤ 201) : (gridJ n ++ rowJ n m).length ≤ 100000 := by
  rw [List.length_append, rowJ_len]
  rcases gridJ_len n with h | h <;> omega
theorem gridJ_mem {n : Nat} {p : Jp2} (h : p ∈ gridJ n) : 0 ≤ p.2 ∧ p.2 ≤ p.1 ∧ p.1 < n := by
  unfold gridJ rowJ at h
  rw [List.mem_flatMap] at h
  obtain ⟨x, hx, h⟩ := h
  rw [List.mem_map] at h
  obtain ⟨y, hy, rfl⟩ := h
  rw [List.mem_range] at hx hy
  simp only
  omega
theorem filter_len_le {P : Jp2 → Bool} (L : List Jp2) {n : Nat} (h : L.length ≤ n) : (L.filter P).length ≤ n := Nat.le_trans (List.length_filter_le _ _) h
theorem filter_snocJ (P : Jp2 → Bool) (L : List Jp2) (p : Jp2) : (L ++ [p]).filter P = L.filter P ++ (if P p = true then [p] else []) := by
  rw [List.filter_append]
  congr 1
  cases h : P p <;> simp [h]
def goodP (k c : Int) (p : Jp2) : Bool := juGd p.1 p.2 k c
def leastP (k : Int) (p : Jp2) : Bool := (dnJ k p).isNone
def puOk (k c m : Int) : Bool := juW k c && decide (0 ≤ m ∧ m ≤ 200)
def puAns (k c m : Int) : Option (List (List Int)) := if puOk k c m = true then toldJ ((gridJ (m.toNat + 1)).filter (goodP k c)) else none
def clAns (k c m : Int) : Option (List (List Int)) := if puOk k c m = true then toldJ ((gridJ (m.toNat + 1)).filter fun p => goodP k c p && leastP k p) else none
theorem puOk_iff {k c m : Int} : puOk k c m = true ↔ juW k c = true ∧ 0 ≤ m ∧ m ≤ 200 := by unfold puOk; simp
end Go.Proofs.Ytdahhcigphhfdaa
