/- The matrix of jumps up: the model and the program. -/
import Derived.Test.YtdahhcigphhfdaaBasB
import Derived.Test.YtdahhcigphhfdaaJpM
namespace Go.Proofs.Ytdahhcigphhfdaa
open Go.RowKit

def jmL (k : Int) : List (List Int) := [[k, -1], [1, 0]]
def jmM (k : Int) : Option (List (List Int)) := if 1 ≤ k ∧ k ≤ 1000 then some (jmL k) else none
theorem jmM_off (k : Int) : off ((jmM k).getD []) ((jmM k).getD []).length ≤ 1000000000000 := by
  unfold jmM
  split
  · simp [jmL, off]
  · simp [off]
theorem jmL_good {k : Int} (h : 1 ≤ k ∧ k ≤ 1000) : ifGood (jmL k) = some (jmL k) := by
  unfold ifGood
  rw [if_pos]
  have h1 : within (-1000000) 1000000 k = true := within_yes (by omega) (by omega)
  simp [goodM, rowGood, jmL, h1]
  decide
theorem jm_pair (w : World) (a b : Int) : OwnInts w.heap.size (w.alloc (.cells #[.int .i64 a, .int .i64 b] 3)).heap.size (w.alloc (.cells #[.int .i64 a, .int .i64 b] 3)) (.slice (some ⟨w.heap.size, 0, none⟩) 2 2) [a, b] := by
  have h := World.ownsRow_lit (e := 3) (size := 1) w #[.int .i64 a, .int .i64 b] 2 (Nat.le_refl _) (by unfold maxLen; omega) (by simp)
  refine ⟨h, fun k hk => ?_⟩
  simp [Value.ownBlock] at hk ⊢
  omega
theorem ownsMat2 (w : World) (a b c d : Int) :
    OwnRows w.heap.size (w.heap.size + 3) (((w.alloc (.cells #[.int .i64 a, .int .i64 b] 3)).alloc (.cells #[.int .i64 c, .int .i64 d] 3)).alloc (.cells #[.slice (some ⟨w.heap.size, 0, none⟩) 2 2, .slice (some ⟨w.heap.size + 1, 0, none⟩) 2 2] 32))
      (.slice (some ⟨w.heap.size + 1 + 1, 0, none⟩) 2 2) [[a, b], [c, d]] := by
  obtain ⟨w1, h1⟩ : ∃ w1, w.alloc (.cells #[.int .i64 a, .int .i64 b] 3) = w1 := ⟨_, rfl⟩
  obtain ⟨w2, h2⟩ : ∃ w2, w1.alloc (.cells #[.int .i64 c, .int .i64 d] 3) = w2 := ⟨_, rfl⟩
  have s1 : w1.heap.size = w.heap.size + 1 := by rw [← h1]; simp
  have s2 : w2.heap.size = w.heap.size + 1 + 1 := by rw [← h2]; simp [s1]
  rw [h1, h2]
  have o1 := jm_pair w a b
  have o2 := jm_pair w1 c d
  rw [h1] at o1
  rw [h2] at o2
  have l2 : Later w1 w2 := h2 ▸ Later.alloc _ _
  have l4 := Later.alloc w2 (.cells #[.slice (some ⟨w.heap.size, 0, none⟩) 2 2, .slice (some ⟨w.heap.size + 1, 0, none⟩) 2 2] 32)
  have hl := World.ownsRow_lit (e := 32) (size := 1) w2 #[.slice (some ⟨w.heap.size, 0, none⟩) 2 2, .slice (some ⟨w.heap.size + 1, 0, none⟩) 2 2] 2 (Nat.le_refl _) (by unfold maxLen; omega) (by simp)
  rw [s2] at hl
  refine ⟨[.slice (some ⟨w.heap.size, 0, none⟩) 2 2, .slice (some ⟨w.heap.size + 1, 0, none⟩) 2 2], rfl, ownsRow_base (by simpa using hl) (by omega), fun k hk => by simp [Value.ownBlock] at hk; omega, ?_, ?_⟩
  · intro j hj
    have hj3 : j = 0 ∨ j = 1 := by simp at hj; omega
    rcases hj3 with rfl | rfl
    · exact ((o1.later l2).later l4).wide (Nat.le_refl _) (by omega)
    · have := o2.later l4
      rw [s1] at this
      exact this.wide (by omega) (by omega)
  · intro x y hxy hy k hk
    have hy3 : x = 0 ∧ y = 1 := by simp at hy; omega
    obtain ⟨rfl, rfl⟩ := hy3
    simp [Value.ownBlock] at hk ⊢
    omega
end Go.Proofs.Ytdahhcigphhfdaa
