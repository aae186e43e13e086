/- Contracts of the checks of a matrix: l1In, l1All, foGood (the model), areWithin, isMatrixUpTo (the program): all answer by one function of the numbers. -/
import Derived.Test.YtcgdegmhajfbaabMark
namespace Go.Proofs.Ytcgdegmhajfbaab
open Go.RowKit

def within (lo hi : Int) (z : Int) : Bool := decide (lo ≤ z) && decide (z ≤ hi)
def rowGood (m : Int) (n : Nat) (r : List Int) : Bool := decide (r.length = n) && r.all (within (-m) m)
def goodM (m : Int) (zss : List (List Int)) : Bool := decide (1 ≤ zss.length) && decide (zss.length ≤ 4) && zss.all (rowGood m zss.length)

theorem l1In_any (n lo hi : Int) (w : World) :
    Calls Try.prog 38 #[.int .i64 n, .int .i64 lo, .int .i64 hi] w fun e w' => e = .returned (.bool (within lo hi n)) ∧ w = w' := by
  by_cases h1 : lo ≤ n
  · go_enter Try.func38, Try.ntmps38
    go_wp2
    go_ret
    exact ⟨ret_bool (by simp [within, h1]), rfl⟩
  · have hb : decide (lo ≤ n) = false := by simpa using h1
    go_enter Try.func38, Try.ntmps38
    go_wp2
    go_ret
    exact ⟨ret_bool (by symm; simp only [within, Bool.and_eq_false_iff, decide_eq_false_iff_not]; omega), rfl⟩
theorem l1In_as (n lo hi : Int) (b : Bool) (w : World) (h : within lo hi n = b) :
    Calls Try.prog 38 #[.int .i64 n, .int .i64 lo, .int .i64 hi] w fun e w' => e = .returned (.bool b) ∧ w = w' := by
  subst h; exact l1In_any n lo hi w

theorem goodM_size (m : Int) (zss : List (List Int)) (h : ¬ (1 ≤ zss.length ∧ zss.length ≤ 4)) : goodM m zss = false := by
  unfold goodM; rw [← Bool.decide_and, decide_eq_false h]; rfl
theorem goodM_eq (m : Int) (zss : List (List Int)) (h : 1 ≤ zss.length ∧ zss.length ≤ 4) : goodM m zss = zss.all (rowGood m zss.length) := by
  unfold goodM; simp [h.1, h.2]
theorem rowGood_len (m : Int) (n : Nat) (r : List Int) (h : r.length ≠ n) : rowGood m n r = false := by simp [rowGood, h]
theorem rowGood_eq (m : Int) (n : Nat) (r : List Int) (h : r.length = n) : rowGood m n r = r.all (within (-m) m) := by simp [rowGood, h]
theorem getD_row (zss : List (List Int)) (k : Nat) (h : k < zss.length) : zss.getD k [] = zss[k] := by simp [h]

end Go.Proofs.Ytcgdegmhajfbaab
