/- Contracts of foZero, foUnit, UnitMatrix (the model), unitEntry, matrixOf, UnitMatrix (the program). -/
import Derived.Test.YtcgdegmhajfbaacGrid
import Derived.Deep.AppendLies
import Derived.Deep.OwnRows
import Derived.Deep.RegionLaw
namespace Go.Proofs.Ytcgdegmhajfbaac
open Go.RowKit

/-- What a function that answers a matrix and a bool leaves: o's rows, if there are any. -/
def MatAns (w : World) (o : Option (List (List Int))) (e : Ending) (w' : World) : Prop :=
  ∃ v, e = .returned (.tuple #[.agg #[v], .bool o.isSome]) ∧ OwnRows w.heap.size w'.heap.size w' v (o.getD []) ∧ Later w w'

theorem OwnRows.empty (lo hi : Nat) (w : World) : OwnRows lo hi w (.slice none 0 0) [] :=
  ⟨[], rfl, World.ownsRow_nil _ _ _ _, fun b hb => by simp [Value.ownBlock] at hb, fun i hi => absurd hi (Nat.not_lt_zero i), fun i j _ hj => absurd hj (Nat.not_lt_zero j)⟩

theorem OwnRows.pushed {lo : Nat} {w w1 : World} {v v' u : Value} {us : List Value} {L : List (List Int)} {r : List Int} {h0 : Nat} (hl : us.length = L.length) (ho : w.ownsRow lo 28 1 v us.length us)
    (hin : ∀ i, i < L.length → OwnInts lo h0 w (us.getD i undef) (L.getD i [])) (hd : ∀ i j, i < j → j < L.length → ∀ k, (us.getD i undef).ownBlock = some k → (us.getD j undef).ownBlock ≠ some k)
    (hu : OwnInts h0 w.heap.size w u r) (hlo : lo ≤ h0) (ho1 : w1.ownsRow lo 28 1 v' (us.length + 1) (us ++ [u])) (hg : w.grownBy w1 v.ownBlock) : OwnRows lo w1.heap.size w1 v' (L ++ [r]) := by
  have keep : ∀ (a : Value) (zs : List Int) (lo' hi' : Nat), OwnInts lo' hi' w a zs → OwnInts lo' hi' w1 a zs := by
    intro a zs lo' hi' h
    refine ⟨ownsRow_keep h.1 fun b hb => hg.block b (h.1.lt b hb).2 fun e => ?_, h.2⟩
    obtain ⟨c1, hc1⟩ := ownsRow_block h.1 hb
    obtain ⟨c2, hc2⟩ := ownsRow_block ho e.symm
    rw [hc1] at hc2
    simp at hc2
  refine ⟨us ++ [u], by simp [hl], by rw [List.length_append]; exact ho1, fun b hb => (ho1.lt b hb).2, ?_, ?_⟩
  · intro i hi
    by_cases hil : i = L.length
    · subst hil
      rw [show (us ++ [u]).getD L.length undef = u by simp [← hl], show (L ++ [r]).getD L.length [] = r by simp]
      exact (keep _ _ _ _ hu).wide hlo hg.size
    · have hi' : i < L.length := by simp at hi; omega
      rw [show (us ++ [u]).getD i undef = us.getD i undef by simp [List.getElem?_append_left (show i < us.length by omega)], show (L ++ [r]).getD i [] = L.getD i [] by simp [List.getElem?_append_left hi']]
      have h1 := keep _ _ _ _ (hin i hi')
      exact ⟨h1.1, fun b hb => (h1.1.lt b hb).2⟩
  · intro i j hij hj b hb
    have hj' : j < L.length + 1 := by simpa using hj
    rw [show (us ++ [u]).getD i undef = us.getD i undef by simp [List.getElem?_append_left (show i < us.length by omega)]] at hb
    by_cases hjl : j = L.length
    · subst hjl
      rw [show (us ++ [u]).getD L.length undef = u by simp [← hl]]
      intro hb2
      have h1 := (hin i hij).2 b hb
      have h2 := (hu.1.lt b hb2).1
      omega
    · rw [show (us ++ [u]).getD j undef = us.getD j undef by simp [List.getElem?_append_left (show j < us.length by omega)]]
      exact hd i j hij (by omega) b hb

theorem madeInts (w : World) (n : Nat) (hn : n ≤ 1048576) : OwnInts w.heap.size (w.heap.size + 1) (w.alloc (.cells (madeCells #[Value.int .i64 0] n) 3)) (.slice (some ⟨w.heap.size, 0, none⟩) n n) (List.replicate n 0) := by
  have h := World.ownsRow_lit (e := 3) (size := 1) w (madeCells #[Value.int .i64 0] n) n (Nat.le_refl _) (by unfold maxLen; omega) (by simp [size_madeCells])
  rw [toList_madeCells_one] at h
  refine ⟨by simpa using h, fun b hb => by simp [Value.ownBlock] at hb; omega⟩

/-- A variable of one cell, in block b, holds v and may be written. -/
def Box (w : World) (b : Nat) (v : Value) : Prop := w.cell? ⟨b, 0, none⟩ = some v ∧ w.frozen? ⟨b, 0, none⟩ = false
theorem Box.later {w w' : World} {b : Nat} {v : Value} (h : Box w b v) (k : Later w w') : Box w' b v := ⟨k.cell h.1, k.frozen h.1 h.2⟩
theorem Box.keep {w w' : World} {b : Nat} {v : Value} (h : Box w b v) (k : w'.heap[b]? = w.heap[b]?) : Box w' b v :=
  ⟨cell_keep h.1 k, (World.frozen?_of_block (a := ⟨b, 0, none⟩) k).trans h.2⟩
theorem Box.lt {w : World} {b : Nat} {v : Value} (h : Box w b v) : b < w.heap.size := World.block_lt_of_cell? w ⟨b, 0, none⟩ h.1
theorem Box.set {w : World} {b : Nat} {v : Value} (h : Box w b v) (u : Value) : Box (w.setCell ⟨b, 0, none⟩ u) b u :=
  ⟨World.cell?_setCell_same _ _ _ h.1, by rw [World.frozen?_setCell]; exact h.2⟩
theorem Box.other {w : World} {b : Nat} {v : Value} (h : Box w b v) {a : Addr} (ha : a.block ≠ b) (u : Value) : Box (w.setCell a u) b v :=
  h.keep (heap_setCell_other w a b u (fun e => ha e.symm))

theorem Box.grown {w w1 : World} {b : Nat} {v u : Value} (h : Box w b v) (hg : w.grownBy w1 u.ownBlock) (hb : u.ownBlock = some b → False) : Box w1 b v :=
  h.keep (hg.block b h.lt fun e => hb e.symm)

def zeroM (k n : Nat) : List (List Int) := List.replicate k (List.replicate n 0)
theorem zeroM_succ (k n : Nat) : zeroM (k + 1) n = zeroM k n ++ [List.replicate n 0] := by simp [zeroM, List.replicate_succ']

def eqI (i j : Nat) : Int := if i = j then 1 else 0
def unitM (n : Nat) : List (List Int) := mk n eqI
theorem unitM_row (n i : Nat) (h : i < n) : (unitM n).getD i [] = (List.replicate n (0 : Int)).set i 1 := by
  unfold unitM
  rw [mk_row n _ i h]
  apply List.ext_getElem
  · simp
  · intro j h1 h2
    simp at h1
    by_cases hij : i = j
    · subst hij; simp [eqI]
    · simp [eqI, hij, List.getElem_set_ne hij]

/-- A row of ints of the call's own that has an element: its block, the cell, and what a store there leaves. -/
theorem OwnInts.cell {lo hi : Nat} {w : World} {u : Value} {zs : List Int} (h : OwnInts lo hi w u zs) {i : Nat} (hi' : i < zs.length) :
    ∃ g cap, u = .slice (some ⟨g, 0, none⟩) zs.length cap ∧ lo ≤ g ∧ g < hi ∧ w.cell? ⟨g, i, none⟩ = some (.int .i64 (zs.getD i 0)) ∧ w.frozen? ⟨g, i, none⟩ = false ∧
      ∀ x, OwnInts lo hi (w.setCell ⟨g, i, none⟩ (.int .i64 x)) u (zs.set i x) ∧ Wrote (fun b => u.ownBlock = some b) w (w.setCell ⟨g, i, none⟩ (.int .i64 x)) := by
  rcases h.form with ⟨_, rfl⟩ | ⟨g, cap, rfl⟩
  · simp at hi'
  · have ho := h.1
    have hb := h.blk (b := g) rfl
    refine ⟨g, cap, rfl, hb.1, hb.2, ?_, ho.frozenAt i, fun x => ⟨⟨?_, fun k hk => h.2 k hk⟩, Wrote.setCell w ⟨g, i, none⟩ _ rfl⟩⟩
    · rw [ho.cellAt i (by omega)]; simp [hi']
    · have := (ho.stored i (.int .i64 x)).1
      rw [List.length_set, List.map_set]
      exact this

/-- The first i rows of a grid of the call's own are as in M, the others as in Z. -/
def Mixed (lo hi : Nat) (w0 w : World) (v : Value) (M Z : List (List Int)) (i : Nat) : Prop :=
  ∃ L, L.length = Z.length ∧ L.take i = M.take i ∧ L.drop i = Z.drop i ∧ OwnRows lo hi w v L ∧ Wrote (fun b => lo ≤ b ∧ b < hi) w0 w
theorem Mixed.start {lo hi : Nat} {w : World} {v : Value} {M Z : List (List Int)} (h : OwnRows lo hi w v Z) : Mixed lo hi w w v M Z 0 := ⟨Z, rfl, by simp, rfl, h, Wrote.refl _ _⟩
theorem Mixed.full {lo hi : Nat} {w0 w : World} {v : Value} {M Z : List (List Int)} (h : Mixed lo hi w0 w v M Z Z.length) (hM : M.length = Z.length) : OwnRows lo hi w v M := by
  obtain ⟨L, hl, ht, hd, ho, hW⟩ := h
  rw [List.take_of_length_le (by omega), List.take_of_length_le (by omega)] at ht
  subst ht
  exact ho
theorem Mixed.row {lo hi : Nat} {w0 w : World} {v : Value} {M Z : List (List Int)} {i : Nat} (h : Mixed lo hi w0 w v M Z i) (hi' : i < Z.length) (hM : M.length = Z.length) :
    ∃ g cap u, v = .slice (some ⟨g, 0, none⟩) Z.length cap ∧ w.cell? ⟨g, i, none⟩ = some u ∧ OwnInts lo hi w u (Z.getD i []) ∧
      ∀ w2, OwnInts lo hi w2 u (M.getD i []) → Wrote (fun b => u.ownBlock = some b) w w2 → Mixed lo hi w0 w2 v M Z (i + 1) := by
  obtain ⟨L, hl, ht, hd, ho, hW⟩ := h
  have hLj : L.getD i [] = Z.getD i [] := by
    have h1 : (L.drop i).head? = (Z.drop i).head? := by rw [hd]
    simp only [List.head?_drop] at h1
    simp [List.getD_eq_getElem?_getD, h1]
  obtain ⟨g, cap, u, hv, hc, hu, hstep⟩ := ho.row (i := i) (by omega)
  rw [hLj] at hu
  rw [addr_add0] at hc
  refine ⟨g, cap, u, by rw [hv, hl], hc, hu, fun w2 h2 hW2 => ⟨L.set i (M.getD i []), by simp [hl], ?_, ?_, hstep w2 _ h2 hW2, hW.trans (hW2.mono fun b hb => hu.blk hb)⟩⟩
  · rw [List.take_succ_eq_append_getElem (by simp; omega), List.take_set_of_le (Nat.le_refl _), ht, take_snoc M i (by omega)]
    simp [show i < M.length by omega]
  · rw [List.drop_set_of_lt (by omega), ← List.drop_drop, hd, List.drop_drop]

end Go.Proofs.Ytcgdegmhajfbaac
