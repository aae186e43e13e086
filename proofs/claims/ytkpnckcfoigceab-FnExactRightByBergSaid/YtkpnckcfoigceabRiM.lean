/- Right triples in the program: parents of triples. -/
import Derived.Test.YtkpnckcfoigceabRiL
namespace Go.Proofs.Ytkpnckcfoigceab
open Go.RowKit

theorem rt_alloc (w : World) (v0 v1 v2 v3 v4 : Value) (ty : TypeId) : (w.alloc (.cells #[v0, v1, v2, v3, v4] ty)).cell? ⟨w.heap.size, 0, none⟩ = some v0 ∧ (w.alloc (.cells #[v0, v1, v2, v3, v4] ty)).cell? ⟨w.heap.size, 1, none⟩ = some v1 := by simp [go_sem]

end Go.Proofs.Ytkpnckcfoigceab
