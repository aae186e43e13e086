/- Triples modulo a prime number: contracts of the checks. -/
import Derived.Test.YtdahhcigphhfdabMkN
namespace Go.Proofs.Ytdahhcigphhfdab
open Go.RowKit

def prime13 (p : Int) : Bool := [2, 3, 5, 7, 11, 13].contains p
theorem prime13_iff (p : Int) : prime13 p = true ↔ (p = 2 ∨ p = 3 ∨ p = 5 ∨ p = 7 ∨ p = 11 ∨ p = 13) := by simp [prime13]
theorem prime13_no {p : Int} (h : ¬ (p = 2 ∨ p = 3 ∨ p = 5 ∨ p = 7 ∨ p = 11 ∨ p = 13)) : prime13 p = false := by
  cases hp : prime13 p
  · rfl
  · exact absurd ((prime13_iff p).1 hp) h
theorem prime13_of {p : Int} {b : Bool} (h : b = true ↔ (p = 2 ∨ p = 3 ∨ p = 5 ∨ p = 7 ∨ p = 11 ∨ p = 13)) : b = prime13 p := by
  rw [Bool.eq_iff_iff, prime13_iff]; exact h

def hasI (zs : List Int) (n : Int) : Bool := zs.contains n
theorem hasI_iff {zs : List Int} {n : Int} : hasI zs n = true ↔ n ∈ zs := by simp [hasI]
theorem ownsSix (w : World) : OwnInts w.heap.size (w.heap.size + 1) (w.alloc (.cells #[.int .i64 2, .int .i64 3, .int .i64 5, .int .i64 7, .int .i64 11, .int .i64 13] 3)) (.slice (some ⟨w.heap.size, 0, none⟩) 6 6) [2, 3, 5, 7, 11, 13] := by
  have h := World.ownsRow_lit (e := 3) (size := 1) w #[.int .i64 2, .int .i64 3, .int .i64 5, .int .i64 7, .int .i64 11, .int .i64 13] 6 (Nat.le_refl _) (by unfold maxLen; omega) (by simp)
  refine ⟨by simpa using h, fun b hb => by simp [Value.ownBlock] at hb; omega⟩
end Go.Proofs.Ytdahhcigphhfdab
