/- Contracts of the functions that every law calls: copies, comparisons, marks. -/
import Derived.Test.YtcgdegmhajfbaacBase
namespace Go.Proofs.Ytcgdegmhajfbaac
open Go.RowKit

theorem Try.infoInt : (Try.prog.info? 3).map (fun i => (i.zero, i.size, i.bytes)) = some (some (.int .i64 0), 1, 8) := by kernel_rfl
theorem Try.infoInts : (Try.prog.info? 28).map (fun i => (i.zero, i.size, i.bytes)) = some (some (.slice none 0 0), 1, 24) := by kernel_rfl

/-! ### szIntS, szIntSS, szMatrix: what is left of the bound, or -1 -/

def SzRes1 (n : Nat) (l : Int) (e : Ending) : Prop := ∃ r : Int, e = .returned (.int .i64 r) ∧ (r = -1 ∨ (0 ≤ r ∧ r ≤ l ∧ (n : Int) ≤ l))
def SzOk (zss : List (List Int)) (l r : Int) : Prop := r = -1 ∨ (0 ≤ r ∧ r ≤ l ∧ (zss.length : Int) ≤ l ∧ ∀ i, i < zss.length → ((zss.getD i []).length : Int) ≤ l)
def SzRes2 (zss : List (List Int)) (l : Int) (e : Ending) : Prop := ∃ r : Int, e = .returned (.int .i64 r) ∧ SzOk zss l r

end Go.Proofs.Ytcgdegmhajfbaac
