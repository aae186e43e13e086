/- The way down of a triple, in the program. -/
import Derived.Test.YtdahhcigphhfdabTris
namespace Go.Proofs.Ytdahhcigphhfdab
open Go.RowKit

def Box3 (w : World) (B : Nat) (a b c : Int) : Prop :=
  (w.cell? ⟨B, 0, none⟩ = some (.int .i64 a) ∧ w.cell? ⟨B, 1, none⟩ = some (.int .i64 b) ∧ w.cell? ⟨B, 2, none⟩ = some (.int .i64 c)) ∧
  w.frozen? ⟨B, 0, none⟩ = false ∧ w.frozen? ⟨B, 1, none⟩ = false ∧ w.frozen? ⟨B, 2, none⟩ = false
theorem Box3.later {w w' : World} {B : Nat} {a b c : Int} (h : Box3 w B a b c) (k : Later w w') : Box3 w' B a b c :=
  ⟨⟨k.cell h.1.1, k.cell h.1.2.1, k.cell h.1.2.2⟩, k.frozen h.1.1 h.2.1, k.frozen h.1.2.1 h.2.2.1, k.frozen h.1.2.2 h.2.2.2⟩
theorem Box3.keep {w w' : World} {B : Nat} {a b c : Int} (h : Box3 w B a b c) (k : w'.heap[B]? = w.heap[B]?) : Box3 w' B a b c :=
  ⟨⟨cell_keep h.1.1 k, cell_keep h.1.2.1 k, cell_keep h.1.2.2 k⟩, (World.frozen?_of_block k).trans h.2.1, (World.frozen?_of_block k).trans h.2.2.1, (World.frozen?_of_block k).trans h.2.2.2⟩
theorem Box3.lt {w : World} {B : Nat} {a b c : Int} (h : Box3 w B a b c) : B < w.heap.size := World.block_lt_of_cell? w ⟨B, 0, none⟩ h.1.1
theorem Box3.set {w : World} {B : Nat} {a b c : Int} (h : Box3 w B a b c) (p q r : Int) :
    Box3 (((w.setCell ⟨B, 0, none⟩ (.int .i64 p)).setCell ⟨B, 1, none⟩ (.int .i64 q)).setCell ⟨B, 2, none⟩ (.int .i64 r)) B p q r :=
  ⟨⟨(World.cell?_setCell_other _ _ _ _ (by simp)).trans ((World.cell?_setCell_other _ _ _ _ (by simp)).trans (World.cell?_setCell_same _ _ _ h.1.1)),
    (World.cell?_setCell_other _ _ _ _ (by simp)).trans (World.cell?_setCell_same _ _ _ ((World.cell?_setCell_other _ _ _ _ (by simp)).trans h.1.2.1)),
    World.cell?_setCell_same _ _ _ ((World.cell?_setCell_other _ _ _ _ (by simp)).trans ((World.cell?_setCell_other _ _ _ _ (by simp)).trans h.1.2.2))⟩,
   by rw [World.frozen?_setCell, World.frozen?_setCell, World.frozen?_setCell]; exact h.2.1, by rw [World.frozen?_setCell, World.frozen?_setCell, World.frozen?_setCell]; exact h.2.2.1, by rw [World.frozen?_setCell, World.frozen?_setCell, World.frozen?_setCell]; exact h.2.2.2⟩
theorem ownsRow_keep3 {w w' : World} {lo : Nat} {e : TypeId} {sz : Nat} {v : Value} {n : Nat} {xs : List Value} (h : w.ownsRow lo e sz v n xs)
    (k : ∀ b, v.ownBlock = some b → w'.heap[b]? = w.heap[b]?) : w'.ownsRow lo e sz v n xs := by
  refine ⟨h.1, ?_⟩
  rcases h.2 with hn | ⟨g, cap, cur, rfl, hb, hgg, rest⟩
  · exact .inl hn
  · exact .inr ⟨g, cap, cur, rfl, hb, (k g rfl).trans hgg, rest⟩
theorem OwnTris.later {lo : Nat} {w w' : World} {v : Value} {L : List Tr} (h : OwnTris lo w v L) (k : Later w w') : OwnTris lo w' v L :=
  ownsRow_keep3 h fun b hb => k.block b (h.lt b hb).2
theorem OwnTris.shape {lo : Nat} {w : World} {v : Value} {L : List Tr} (h : OwnTris lo w v L) : ∃ a cap, v = .slice a L.length cap ∧ L.length ≤ cap := by
  rcases h.2 with ⟨rfl, h0⟩ | ⟨g, cap, cur, rfl, hb, hg, hn, _⟩
  · exact ⟨none, 0, by rw [h0], by omega⟩
  · exact ⟨_, cap, rfl, by omega⟩
theorem OwnTris.one (w : World) (t : Tr) : OwnTris w.heap.size (w.alloc (.cells #[.int .i64 t.1, .int .i64 t.2.1, .int .i64 t.2.2] 106)) (.slice (some ⟨w.heap.size, 0, none⟩) 1 1) [t] := by
  have h := World.ownsRow_lit (e := 106) (size := 3) w #[.int .i64 t.1, .int .i64 t.2.1, .int .i64 t.2.2] 1 (Nat.le_refl _) (by unfold maxLen; omega) (by simp)
  simpa [OwnTris, trCells] using h
theorem OwnTris.base {lo lo' : Nat} {w : World} {v : Value} {L : List Tr} (h : OwnTris lo w v L) (hl : lo' ≤ lo) : OwnTris lo' w v L := by
  refine ⟨h.1, ?_⟩
  rcases h.2 with hn | ⟨g, cap, cur, rfl, hb, rest⟩
  · exact .inl hn
  · exact .inr ⟨g, cap, cur, rfl, Nat.le_trans hl hb, rest⟩
theorem moveL2_eq {x y z p q r : Int} (h : moveL x y z 2 = [p, q, r]) : p = nx x y z ∧ q = ny x y z ∧ r = nz x y z := by
  have h2 : [nx x y z, ny x y z, nz x y z] = [p, q, r] := h
  simp only [List.cons.injEq, and_true] at h2
  exact ⟨h2.1.symm, h2.2.1.symm, h2.2.2.symm⟩
theorem isRoot_T3 {x y z : Int} (h : T3 x y z) : isRoot3 x y z = decide (z = 1) := by
  obtain ⟨hx, hy, hz, hxy, hyz, _⟩ := h
  unfold isRoot3
  by_cases h1 : z = 1
  · rw [decide_eq_true h1, decide_eq_true (show x = 1 by omega), decide_eq_true (show y = 1 by omega)]; rfl
  · rw [decide_eq_false h1]; simp

end Go.Proofs.Ytdahhcigphhfdab
