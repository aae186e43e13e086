/- Right triples in the program: the parent of a pair. -/
import Derived.Test.YtkpnckcfoigceabRiP
namespace Go.Proofs.Ytkpnckcfoigceab
open Go.RowKit

def tree3 (s0 s1 s2 : St) : List Value := [.int .i64 s0.a, .int .i64 s0.b, .int .i64 s0.c, .int .i64 s0.d, .int .i64 s1.a, .int .i64 s1.b, .int .i64 s1.c, .int .i64 s1.d, .int .i64 s2.a, .int .i64 s2.b, .int .i64 s2.c, .int .i64 s2.d]
def parOf (s : St) (m n k : Int) : Value := .tuple #[.agg #[.int .i64 (bef s m n).1, .int .i64 (bef s m n).2], .int .i64 k, .bool true]
def parNone : Value := .tuple #[.agg #[.int .i64 0, .int .i64 0], .int .i64 0, .bool false]
def parV (s0 s1 s2 : St) (m n : Int) : Value :=
  if okB s0 m n = true then parOf s0 m n 0 else if okB s1 m n = true then parOf s1 m n 1 else if okB s2 m n = true then parOf s2 m n 2 else parNone
structure Good3 (s0 s1 s2 : St) : Prop where
  g0 : Small s0
  g1 : Small s1
  g2 : Small s2
  d0 : s0.det ≠ 0
  d1 : s1.det ≠ 0
  d2 : s2.det ≠ 0
/-- Two cells of a block of one's own. -/
structure Box2 (w : World) (b : Nat) (x y : Int) : Prop where
  c0 : w.cell? ⟨b, 0, none⟩ = some (.int .i64 x)
  c1 : w.cell? ⟨b, 1, none⟩ = some (.int .i64 y)
  f0 : w.frozen? ⟨b, 0, none⟩ = false
  f1 : w.frozen? ⟨b, 1, none⟩ = false
theorem Box2.new (w : World) (x y : Int) (ty : TypeId) : Box2 (w.alloc (.cells #[.int .i64 x, .int .i64 y] ty)) w.heap.size x y :=
  ⟨by simp [go_sem], by simp [go_sem], by simp [go_sem], by simp [go_sem]⟩
theorem Box2.later {w w' : World} {b : Nat} {x y : Int} (h : Box2 w b x y) (k : Later w w') : Box2 w' b x y := ⟨k.cell h.c0, k.cell h.c1, k.frozen h.c0 h.f0, k.frozen h.c1 h.f1⟩
theorem Box2.set {w : World} {b : Nat} {x y : Int} (h : Box2 w b x y) (p q : Int) :
    ((w.setCell ⟨b, 0, none⟩ (.int .i64 p)).setCell ⟨b, 1, none⟩ (.int .i64 q)).cell? ⟨b, 0, none⟩ = some (.int .i64 p) ∧ ((w.setCell ⟨b, 0, none⟩ (.int .i64 p)).setCell ⟨b, 1, none⟩ (.int .i64 q)).cell? ⟨b, 1, none⟩ = some (.int .i64 q) :=
  ⟨(World.cell?_setCell_other _ _ _ _ (by simp)).trans (World.cell?_setCell_same _ _ _ h.c0), World.cell?_setCell_same _ _ _ ((World.cell?_setCell_other _ _ _ _ (by simp)).trans h.c1)⟩
theorem later_set2 {w0 w : World} {b : Nat} (h : Later w0 w) (hb : w0.heap.size ≤ b) (p q : Value) : Later w0 ((w.setCell ⟨b, 0, none⟩ p).setCell ⟨b, 1, none⟩ q) := Below.setCell (Below.setCell h hb _) hb _

theorem results_cell_2 {fn : Func} {p u t : Tmp} {ty : TypeId} (h : fn.results = #[.cell p ty, .tmp u, .tmp t]) (tmps : Array Value) (P : Program) (w : World) :
    (results fn tmps).run P w =
      ((asAddr (tmps.getD p undef)).run P w).andThen fun a w₁ => ((loadVar ty a).run P w₁).andThen fun v w₂ => .ok (.tuple #[v, tmps.getD u undef, tmps.getD t undef]) w₂ := by
  simp only [results, h]
  simp [Sem.run_bind, Result.andThen]
theorem tree_index0 (v0 v1 v2 v3 v4 v5 v6 v7 v8 v9 v10 v11 : Value) (w : World) :
    (Instr.index 39 (.agg #[v0, v1, v2, v3, v4, v5, v6, v7, v8, v9, v10, v11]) (.int .i64 0)).run Try.prog w = .ok (.agg #[v0, v1, v2, v3]) w := by
  simp [Instr.index, run_underlying Try.underlying39, asIntOf, go_sem]
theorem tree_index1 (v0 v1 v2 v3 v4 v5 v6 v7 v8 v9 v10 v11 : Value) (w : World) :
    (Instr.index 39 (.agg #[v0, v1, v2, v3, v4, v5, v6, v7, v8, v9, v10, v11]) (.int .i64 1)).run Try.prog w = .ok (.agg #[v4, v5, v6, v7]) w := by
  simp [Instr.index, run_underlying Try.underlying39, asIntOf, go_sem]
theorem tree_index2 (v0 v1 v2 v3 v4 v5 v6 v7 v8 v9 v10 v11 : Value) (w : World) :
    (Instr.index 39 (.agg #[v0, v1, v2, v3, v4, v5, v6, v7, v8, v9, v10, v11]) (.int .i64 2)).run Try.prog w = .ok (.agg #[v8, v9, v10, v11]) w := by
  simp [Instr.index, run_underlying Try.underlying39, asIntOf, go_sem]

end Go.Proofs.Ytkpnckcfoigceab
