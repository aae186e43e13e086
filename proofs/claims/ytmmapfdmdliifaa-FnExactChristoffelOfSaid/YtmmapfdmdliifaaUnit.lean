/- Contracts of foZero, foUnit, UnitMatrix (the model), unitEntry, matrixOf, UnitMatrix (the program). -/
import Derived.Test.YtmmapfdmdliifaaGrid
import Derived.Deep.AppendLies
import Derived.Deep.OwnRows
import Derived.Deep.RegionLaw
namespace Go.Proofs.Ytmmapfdmdliifaa
open Go.RowKit

theorem madeInts (w : World) (n : Nat) (hn : n ≤ 1048576) : OwnInts w.heap.size (w.heap.size + 1) (w.alloc (.cells (madeCells #[Value.int .i64 0] n) 3)) (.slice (some ⟨w.heap.size, 0, none⟩) n n) (List.replicate n 0) := by
  have h := World.ownsRow_lit (e := 3) (size := 1) w (madeCells #[Value.int .i64 0] n) n (Nat.le_refl _) (by unfold maxLen; omega) (by simp [size_madeCells])
  rw [toList_madeCells_one] at h
  refine ⟨by simpa using h, fun b hb => by simp [Value.ownBlock] at hb; omega⟩

/-- A variable of one cell, in block b, holds v and may be written. -/
def Box (w : World) (b : Nat) (v : Value) : Prop := w.cell? ⟨b, 0, none⟩ = some v ∧ w.frozen? ⟨b, 0, none⟩ = false
theorem Box.later {w w' : World} {b : Nat} {v : Value} (h : Box w b v) (k : Later w w') : Box w' b v := ⟨k.cell h.1, k.frozen h.1 h.2⟩
theorem Box.keep {w w' : World} {b : Nat} {v : Value} (h : Box w b v) (k : w'.heap[b]? = w.heap[b]?) : Box w' b v :=
  ⟨cell_keep h.1 k, (World.frozen?_of_block (a := ⟨b, 0, none⟩) k).trans h.2⟩
theorem Box.lt {w : World} {b : Nat} {v : Value} (h : Box w b v) : b < w.heap.size := World.block_lt_of_cell? w ⟨b, 0, none⟩ h.1
theorem Box.set {w : World} {b : Nat} {v : Value} (h : Box w b v) (u : Value) : Box (w.setCell ⟨b, 0, none⟩ u) b u :=
  ⟨World.cell?_setCell_same _ _ _ h.1, by rw [World.frozen?_setCell]; exact h.2⟩
theorem Box.other {w : World} {b : Nat} {v : Value} (h : Box w b v) {a : Addr} (ha : a.block ≠ b) (u : Value) : Box (w.setCell a u) b v :=
  h.keep (heap_setCell_other w a b u (fun e => ha e.symm))

theorem Box.grown {w w1 : World} {b : Nat} {v u : Value} (h : Box w b v) (hg : w.grownBy w1 u.ownBlock) (hb : u.ownBlock = some b → False) : Box w1 b v :=
  h.keep (hg.block b h.lt fun e => hb e.symm)

def zeroM (k n : Nat) : List (List Int) := List.replicate k (List.replicate n 0)
theorem zeroM_succ (k n : Nat) : zeroM (k + 1) n = zeroM k n ++ [List.replicate n 0] := by simp [zeroM, List.replicate_succ']

def eqI (i j : Nat) : Int := if i = j then 1 else 0
def unitM (n : Nat) : List (List Int) := mk n eqI
theorem unitM_row (n i : Nat) (h : i < n) : (unitM n).getD i [] = (List.replicate n (0 : Int)).set i 1 := by
  unfold unitM
  rw [mk_row n _ i h]
  apply List.ext_getElem
  · simp
  · intro j h1 h2
    simp at h1
    by_cases hij : i = j
    · subst hij; simp [eqI]
    · simp [eqI, hij, List.getElem_set_ne hij]

/-- A row of ints of the call's own that has an element: its block, the cell, and what a store there leaves. -/
theorem OwnInts.cell {lo hi : Nat} {w : World} {u : Value} {zs : List Int} (h : OwnInts lo hi w u zs) {i : Nat} (hi' : i < zs.length) :
    ∃ g cap, u = .slice (some ⟨g, 0, none⟩) zs.length cap ∧ lo ≤ g ∧ g < hi ∧ w.cell? ⟨g, i, none⟩ = some (.int .i64 (zs.getD i 0)) ∧ w.frozen? ⟨g, i, none⟩ = false ∧
      ∀ x, OwnInts lo hi (w.setCell ⟨g, i, none⟩ (.int .i64 x)) u (zs.set i x) ∧ Wrote (fun b => u.ownBlock = some b) w (w.setCell ⟨g, i, none⟩ (.int .i64 x)) := by
  rcases h.form with ⟨_, rfl⟩ | ⟨g, cap, rfl⟩
  · simp at hi'
  · have ho := h.1
    have hb := h.blk (b := g) rfl
    refine ⟨g, cap, rfl, hb.1, hb.2, ?_, ho.frozenAt i, fun x => ⟨⟨?_, fun k hk => h.2 k hk⟩, Wrote.setCell w ⟨g, i, none⟩ _ rfl⟩⟩
    · rw [ho.cellAt i (by omega)]; simp [hi']
    · have := (ho.stored i (.int .i64 x)).1
      rw [List.length_set, List.map_set]
      exact this

end Go.Proofs.Ytmmapfdmdliifaa
