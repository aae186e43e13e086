/- Circles: movements and what they make of a circle (the program). -/
import Derived.Test.YtoaopmafokoaoaaCiM
namespace Go.Proofs.Ytoaopmafokoaoaa
open Go.RowKit

theorem OwnInts.lit2 (w : World) (a b : Int) : OwnInts w.heap.size (w.alloc (.cells #[.int .i64 a, .int .i64 b] 3)).heap.size (w.alloc (.cells #[.int .i64 a, .int .i64 b] 3)) (.slice (some ⟨w.heap.size, 0, none⟩) 2 2) [a, b] := by
  have h := World.ownsRow_lit (e := 3) (size := 1) w #[.int .i64 a, .int .i64 b] 2 (Nat.le_refl _) (by unfold maxLen; omega) (by simp)
  refine ⟨h, fun k hk => ?_⟩
  simp [Value.ownBlock] at hk ⊢
  omega
/-! ### movedBy -/
end Go.Proofs.Ytoaopmafokoaoaa
