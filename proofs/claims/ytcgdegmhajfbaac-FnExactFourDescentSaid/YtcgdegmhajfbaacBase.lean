/- Predicates on memory that the contracts of this seat speak of: what a slice of ints, a slice of such slices reads as; what the call itself made. -/
import Derived.Test.YtcgdegmhajfbaacProg
import Derived.WalkKit
import Derived.BigQuiet
import Derived.Deep.QuietTactic
import Derived.Handy
namespace Go.Proofs.Ytcgdegmhajfbaac
open Go.RowKit

theorem hid {p : Prop} (h : p) : Hid p := h
theorem ret_bool {a b : Bool} (h : a = b) : Ending.returned (.bool a) = .returned (.bool b) := by rw [h]
theorem ret_int {a b : Int} (h : a = b) : Ending.returned (.int .i64 a) = .returned (.int .i64 b) := by rw [h]

/-! ### reading -/

def I64 (z : Int) : Prop := -9223372036854775808 ≤ z ∧ z ≤ 9223372036854775807
def Fit1 (zs : List Int) : Prop := ∀ z ∈ zs, I64 z
def Fit2 (zss : List (List Int)) : Prop := ∀ zs ∈ zss, Fit1 zs



/-- A slice value that reads as a list of ints. -/
def Ints (w : World) (v : Value) (zs : List Int) : Prop :=
  ∃ a cap, v = .slice a zs.length cap ∧ zs.length ≤ 9223372036854775807 ∧
    ∀ i, i < zs.length → ∃ ad, a = some ad ∧ w.cell? (ad.add i) = some (.int .i64 (zs.getD i 0))

/-- A slice value that reads as a list of lists of ints. -/
def Rows2 (w : World) (v : Value) (zss : List (List Int)) : Prop :=
  ∃ a cap, v = .slice a zss.length cap ∧ zss.length ≤ 9223372036854775807 ∧
    ∀ i, i < zss.length → ∃ ad u, a = some ad ∧ w.cell? (ad.add i) = some u ∧ Ints w u (zss.getD i [])

theorem add_block (a : Addr) (n : Nat) : (a.add n).block = a.block := by unfold Addr.add; split <;> rfl

theorem cell_keep {w w' : World} {a : Addr} {v : Value} (h : w.cell? a = some v) (k : w'.heap[a.block]? = w.heap[a.block]?) : w'.cell? a = some v :=
  (World.cell?_of_block k).trans h

/-- All blocks that were there are as they were. -/
def Later (w w' : World) : Prop := Below w.heap.size w w'
theorem Later.refl (w : World) : Later w w := Below.refl _ _
theorem Later.trans {a b c : World} (h : Later a b) (k : Later b c) : Later a c := Below.trans h (Below.mono k h.size)
theorem Later.drewN (w : World) (n : Nat) : Later w (w.drewN n) := by
  have h := World.drewN_alike w n
  exact ⟨rfl, rfl, rfl, Nat.le_refl _, fun _ _ => rfl⟩
theorem Later.drew (w : World) : Later w w.drew := ⟨rfl, rfl, rfl, Nat.le_refl _, fun _ _ => rfl⟩
theorem Later.alloc (w : World) (o : Obj) : Later w (w.alloc o) := (Below.refl _ _).alloc (Nat.le_refl _) o
theorem Later.cell {w w' : World} (h : Later w w') {a : Addr} {v : Value} (hc : w.cell? a = some v) : w'.cell? a = some v :=
  cell_keep hc (h.block _ (World.block_lt_of_cell? w a hc))
theorem Later.frozen {w w' : World} (h : Later w w') {a : Addr} {v : Value} (hc : w.cell? a = some v) (hf : w.frozen? a = false) : w'.frozen? a = false :=
  (Below.frozen h (World.block_lt_of_cell? w a hc)).trans hf
theorem Ints.later {w w' : World} {v : Value} {zs : List Int} (h : Ints w v zs) (k : Later w w') : Ints w' v zs := by
  obtain ⟨a, cap, rfl, hl, hc⟩ := h
  refine ⟨a, cap, rfl, hl, fun i hi => ?_⟩
  obtain ⟨ad, rfl, hx⟩ := hc i hi
  exact ⟨ad, rfl, k.cell hx⟩
theorem Rows2.later {w w' : World} {v : Value} {zss : List (List Int)} (h : Rows2 w v zss) (k : Later w w') : Rows2 w' v zss := by
  obtain ⟨a, cap, rfl, hl, hc⟩ := h
  refine ⟨a, cap, rfl, hl, fun i hi => ?_⟩
  obtain ⟨ad, u, rfl, hx, hu⟩ := hc i hi
  exact ⟨ad, u, rfl, k.cell hx, hu.later k⟩
theorem Ints.nil (w : World) (cap : Nat) : Ints w (.slice none 0 cap) [] := ⟨none, cap, rfl, Nat.zero_le _, fun i hi => absurd hi (Nat.not_lt_zero i)⟩
theorem Rows2.nil (w : World) (cap : Nat) : Rows2 w (.slice none 0 cap) [] := ⟨none, cap, rfl, Nat.zero_le _, fun i hi => absurd hi (Nat.not_lt_zero i)⟩

/-! ### what the call made: it can be written, and its blocks lie in lo .. hi-1 -/

def OwnInts (lo hi : Nat) (w : World) (v : Value) (zs : List Int) : Prop :=
  w.ownsRow lo 3 1 v zs.length (zs.map (Value.int .i64)) ∧ ∀ k, v.ownBlock = some k → k < hi

def OwnRows (lo hi : Nat) (w : World) (v : Value) (zss : List (List Int)) : Prop :=
  ∃ us : List Value, us.length = zss.length ∧ w.ownsRow lo 28 1 v us.length us ∧ (∀ k, v.ownBlock = some k → k < hi) ∧
    (∀ i, i < zss.length → OwnInts lo hi w (us.getD i undef) (zss.getD i [])) ∧
    ∀ i j, i < j → j < zss.length → ∀ k, (us.getD i undef).ownBlock = some k → (us.getD j undef).ownBlock ≠ some k

theorem ownsRow_keep {w w' : World} {lo : Nat} {e : TypeId} {v : Value} {n : Nat} {xs : List Value} (h : w.ownsRow lo e 1 v n xs)
    (k : ∀ b, v.ownBlock = some b → w'.heap[b]? = w.heap[b]?) : w'.ownsRow lo e 1 v n xs := by
  refine ⟨h.1, ?_⟩
  rcases h.2 with hn | ⟨g, cap, cur, rfl, hb, hgg, rest⟩
  · exact .inl hn
  · exact .inr ⟨g, cap, cur, rfl, hb, (k g rfl).trans hgg, rest⟩
theorem ownsRow_base {w : World} {lo lo' : Nat} {e : TypeId} {v : Value} {n : Nat} {xs : List Value} (h : w.ownsRow lo e 1 v n xs) (hl : lo' ≤ lo) : w.ownsRow lo' e 1 v n xs := by
  refine ⟨h.1, ?_⟩
  rcases h.2 with hn | ⟨g, cap, cur, rfl, hb, rest⟩
  · exact .inl hn
  · exact .inr ⟨g, cap, cur, rfl, Nat.le_trans hl hb, rest⟩
theorem OwnInts.keep {w w' : World} {lo hi : Nat} {v : Value} {zs : List Int} (h : OwnInts lo hi w v zs) (k : ∀ b, lo ≤ b → b < hi → w'.heap[b]? = w.heap[b]?) : OwnInts lo hi w' v zs :=
  ⟨ownsRow_keep h.1 fun b hb => k b (h.1.lt b hb).1 (h.2 b hb), h.2⟩
theorem OwnRows.keep {w w' : World} {lo hi : Nat} {v : Value} {zss : List (List Int)} (h : OwnRows lo hi w v zss) (k : ∀ b, lo ≤ b → b < hi → w'.heap[b]? = w.heap[b]?) : OwnRows lo hi w' v zss := by
  obtain ⟨us, hl, ho, hb, hr, hd⟩ := h
  exact ⟨us, hl, ownsRow_keep ho fun b hb' => k b (ho.lt b hb').1 (hb b hb'), hb, fun i hi => (hr i hi).keep k, hd⟩
theorem OwnInts.wide {w : World} {lo hi lo' hi' : Nat} {v : Value} {zs : List Int} (h : OwnInts lo hi w v zs) (hl : lo' ≤ lo) (hh : hi ≤ hi') : OwnInts lo' hi' w v zs :=
  ⟨ownsRow_base h.1 hl, fun k hk => Nat.lt_of_lt_of_le (h.2 k hk) hh⟩
theorem OwnRows.wide {w : World} {lo hi lo' hi' : Nat} {v : Value} {zss : List (List Int)} (h : OwnRows lo hi w v zss) (hl : lo' ≤ lo) (hh : hi ≤ hi') : OwnRows lo' hi' w v zss := by
  obtain ⟨us, hu, ho, hb, hr, hd⟩ := h
  exact ⟨us, hu, ownsRow_base ho hl, fun k hk => Nat.lt_of_lt_of_le (hb k hk) hh, fun i hi => (hr i hi).wide hl hh, hd⟩
theorem OwnInts.later {w w' : World} {lo hi : Nat} {v : Value} {zs : List Int} (h : OwnInts lo hi w v zs) (k : Later w w') : OwnInts lo hi w' v zs :=
  ⟨ownsRow_keep h.1 fun b hb => k.block b (h.1.lt b hb).2, h.2⟩
theorem OwnRows.later {w w' : World} {lo hi : Nat} {v : Value} {zss : List (List Int)} (h : OwnRows lo hi w v zss) (k : Later w w') : OwnRows lo hi w' v zss := by
  obtain ⟨us, hl, ho, hb, hr, hd⟩ := h
  exact ⟨us, hl, ownsRow_keep ho fun b hb' => k.block b (ho.lt b hb').2, hb, fun i hi => (hr i hi).later k, hd⟩

theorem addr_add0 (g j : Nat) : (⟨g, 0, none⟩ : Addr).add j = ⟨g, j, none⟩ := by
  unfold Addr.add; split <;> simp_all
theorem ownsRow_shape {w : World} {lo : Nat} {e : TypeId} {v : Value} {n : Nat} {xs : List Value} (h : w.ownsRow lo e 1 v n xs) :
    ∃ a cap, v = .slice a n cap ∧ n ≤ cap ∧ n ≤ 9223372036854775807 ∧ xs.length = n ∧ ∀ i, i < n → ∃ g, a = some ⟨g, 0, none⟩ ∧ w.cell? ⟨g, i, none⟩ = xs[i]? := by
  have hx : xs.length = n := by have := h.1; simpa using this
  rcases h.2 with ⟨rfl, rfl⟩ | ⟨g, cap, cur, rfl, hb, hg, hn, hm, hs, ht⟩
  · exact ⟨none, 0, rfl, Nat.le_refl _, Nat.zero_le _, hx, fun i hi => absurd hi (Nat.not_lt_zero i)⟩
  · refine ⟨_, cap, rfl, hn, by unfold maxLen at hm; omega, hx, fun i hi => ⟨g, rfl, ?_⟩⟩
    have h' : w.ownsRow lo e 1 (.slice (some ⟨g, 0, none⟩) n cap) n xs := ⟨h.1, .inr ⟨g, cap, cur, rfl, hb, hg, hn, hm, hs, ht⟩⟩
    exact h'.cellAt i (by omega)
theorem OwnInts.ints {w : World} {lo hi : Nat} {v : Value} {zs : List Int} (h : OwnInts lo hi w v zs) : Ints w v zs := by
  obtain ⟨a, cap, rfl, _, hm, _, hc⟩ := ownsRow_shape h.1
  refine ⟨a, cap, rfl, hm, fun i hi => ?_⟩
  obtain ⟨g, rfl, hx⟩ := hc i hi
  refine ⟨_, rfl, ?_⟩
  rw [addr_add0, hx]
  simp [hi]
theorem OwnRows.rows {w : World} {lo hi : Nat} {v : Value} {zss : List (List Int)} (h : OwnRows lo hi w v zss) : Rows2 w v zss := by
  obtain ⟨us, hl, ho, hb, hr, hd⟩ := h
  obtain ⟨a, cap, rfl, _, hm, _, hc⟩ := ownsRow_shape ho
  refine ⟨a, cap, by rw [hl], by omega, fun i hi => ?_⟩
  obtain ⟨g, rfl, hx⟩ := hc i (by omega)
  refine ⟨_, us.getD i undef, rfl, ?_, (hr i hi).ints⟩
  rw [addr_add0, hx]
  simp [hl, hi]

theorem getD_at (zs : List Int) (k : Nat) (h : k < zs.length) : zs.getD k 0 = zs[k] := by simp [h]
theorem take_snoc {α : Type} (zs : List α) (k : Nat) (h : k < zs.length) : zs.take (k + 1) = zs.take k ++ [zs[k]] := List.take_succ_eq_append_getElem h
theorem take_all {α : Type} (zs : List α) (k : Nat) (h : zs.length ≤ k) : zs.take k = zs := List.take_of_length_le h
theorem all_take_succ {α : Type} (p : α → Bool) (zs : List α) (k : Nat) (h : k < zs.length) (ha : (zs.take k).all p = true) (hp : p zs[k] = true) : (zs.take (k + 1)).all p = true := by
  rw [List.take_succ_eq_append_getElem h, List.all_append, ha]; simp [hp]
theorem all_false_at {α : Type} (p : α → Bool) (zs : List α) (k : Nat) (h : k < zs.length) (hp : p zs[k] = false) : zs.all p = false := by
  rw [List.all_eq_false]; exact ⟨zs[k], List.getElem_mem h, by simp [hp]⟩
/-- A row filled from its head on: one more. -/
theorem set_take (xs : List Value) (ys : List Value) (k : Nat) (u : Value) (h : k < xs.length) (hx : xs.take k = ys) : (xs.set k u).take (k + 1) = ys ++ [u] := by
  rw [List.take_succ_eq_append_getElem (by simpa using h), List.take_set_of_le (Nat.le_refl _), hx]; simp
end Go.Proofs.Ytcgdegmhajfbaac
