/- Boxes of one cell, results in two cells, and what a turned record of a loop leaves alone. -/
import Derived.Test.YtofmmegpadojlaaSqS
namespace Go.Proofs.Ytofmmegpadojlaa
open Go.RowKit Go.Shelf

theorem results_cells2 {fn : Func} {p q : Tmp} {t u : TypeId} (h : fn.results = #[.cell p t, .cell q u]) (tmps : Array Value) (P : Program) (w : World) :
    (results fn tmps).run P w = ((asAddr (tmps.getD p undef)).run P w).andThen fun a w₁ => ((loadVar t a).run P w₁).andThen fun x w₂ => ((asAddr (tmps.getD q undef)).run P w₂).andThen fun b w₃ => ((loadVar u b).run P w₃).andThen fun y w₄ => .ok (.tuple #[x, y]) w₄ := by
  simp only [results, h]
  simp [Sem.run_bind, Result.andThen]
/-- A box of one cell. -/
structure Bx (W : World) (B : Nat) (v : Value) : Prop where
  c : W.cell? ⟨B, 0, none⟩ = some v
  f : W.frozen? ⟨B, 0, none⟩ = false
theorem Bx.keep {W W' : World} {B : Nat} {v : Value} (h : Bx W B v) (k : W'.heap[B]? = W.heap[B]?) : Bx W' B v := ⟨cell_keep h.c k, (World.frozen?_of_block k).trans h.f⟩
theorem Bx.lt {W : World} {B : Nat} {v : Value} (h : Bx W B v) : B < W.heap.size := World.block_lt_of_cell? W ⟨B, 0, none⟩ h.c
theorem Bx.new (W : World) (v : Value) (t : TypeId) : Bx (W.alloc (.cells #[v] t)) W.heap.size v := ⟨by simp [go_sem], by simp [go_sem]⟩
theorem Bx.alloc {W : World} {B : Nat} {v : Value} (h : Bx W B v) (o : Obj) : Bx (W.alloc o) B v := h.keep (Below.heap_alloc _ _ _ h.lt)
theorem Bx.set {W : World} {B : Nat} {v : Value} (h : Bx W B v) (b k : Nat) (u : Value) (hb : B ≠ b) : Bx (W.setCell ⟨b, k, none⟩ u) B v := h.keep (heap_setCell_other W ⟨b, k, none⟩ B u hb)
theorem Bx.put {W : World} {B : Nat} {v : Value} (h : Bx W B v) (k : Nat) (o : Obj) (hb : B ≠ k) : Bx (W.putObj k o) B v := h.keep (World.putObj_heap_other hb)
theorem Bx.store {W : World} {B : Nat} {v : Value} (h : Bx W B v) (u : Value) : Bx (W.setCell ⟨B, 0, none⟩ u) B u := ⟨World.cell?_setCell_same _ _ _ h.c, by rw [World.frozen?_setCell]; exact h.f⟩
theorem grownPutS (W : World) (l : Nat) (o : Obj) : W.grownBy (W.putObj l o) (some l) :=
  ⟨rfl, rfl, rfl, by simp, fun k _ hk => World.putObj_heap_other (fun e => hk (by rw [e]))⟩
theorem below_put {w W : World} {n k : Nat} (h : Below n w W) (hk : n ≤ k) (hn : n ≤ W.heap.size) (o : Obj) : Below n w (W.putObj k o) := h.grown (grownPutS W k o) hn (fun j e => by cases e; exact hk)
theorem prefix_mem {α : Type} {pre : List α} {x : α} {L : List α} (h : pre ++ [x] <+: L) : x ∈ L := h.subset (by simp)
theorem box_set {W : World} {B : Nat} {v : Value} {t : TypeId} (u : Value) (h : W.heap[B]? = some (.cells #[v] t (0, 0))) : (W.setCell ⟨B, 0, none⟩ u).heap[B]? = some (.cells #[u] t (0, 0)) := by
  obtain ⟨hlt, he⟩ := Array.getElem?_eq_some_iff.1 h
  show (W.heap.modify B _)[B]? = _
  rw [Array.getElem?_eq_getElem (by rw [Array.size_modify]; exact hlt), Array.getElem_modify_self, he]
  simp
end Go.Proofs.Ytofmmegpadojlaa
