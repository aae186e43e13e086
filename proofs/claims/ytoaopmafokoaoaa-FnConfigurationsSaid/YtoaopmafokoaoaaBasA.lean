/- Base, Help, Copy, Eq, Mark, Good: in one text. -/
import Derived.Test.YtoaopmafokoaoaaProg
import Derived.WalkKit
import Derived.BigQuiet
import Derived.Deep.QuietTactic
import Derived.Handy
namespace Go.Proofs.Ytoaopmafokoaoaa
open Go.RowKit


theorem hid {p : Prop} (h : p) : Hid p := h
theorem ret_bool {a b : Bool} (h : a = b) : Ending.returned (.bool a) = .returned (.bool b) := by rw [h]
theorem ret_int {a b : Int} (h : a = b) : Ending.returned (.int .i64 a) = .returned (.int .i64 b) := by rw [h]

/-! ### reading -/

def I64 (z : Int) : Prop := -9223372036854775808 ≤ z ∧ z ≤ 9223372036854775807
def Fit1 (zs : List Int) : Prop := ∀ z ∈ zs, I64 z
def Fit2 (zss : List (List Int)) : Prop := ∀ zs ∈ zss, Fit1 zs



/-- A slice value that reads as a list of ints. -/
def Ints (w : World) (v : Value) (zs : List Int) : Prop :=
  ∃ a cap, v = .slice a zs.length cap ∧ zs.length ≤ 9223372036854775807 ∧
    ∀ i, i < zs.length → ∃ ad, a = some ad ∧ w.cell? (ad.add i) = some (.int .i64 (zs.getD i 0))

/-- A slice value that reads as a list of lists of ints. -/
def Rows2 (w : World) (v : Value) (zss : List (List Int)) : Prop :=
  ∃ a cap, v = .slice a zss.length cap ∧ zss.length ≤ 9223372036854775807 ∧
    ∀ i, i < zss.length → ∃ ad u, a = some ad ∧ w.cell? (ad.add i) = some u ∧ Ints w u (zss.getD i [])

theorem add_block (a : Addr) (n : Nat) : (a.add n).block = a.block := by unfold Addr.add; split <;> rfl

theorem cell_keep {w w' : World} {a : Addr} {v : Value} (h : w.cell? a = some v) (k : w'.heap[a.block]? = w.heap[a.block]?) : w'.cell? a = some v :=
  (World.cell?_of_block k).trans h

/-- All blocks that were there are as they were. -/
def Later (w w' : World) : Prop := Below w.heap.size w w'
theorem Later.refl (w : World) : Later w w := Below.refl _ _
theorem Later.trans {a b c : World} (h : Later a b) (k : Later b c) : Later a c := Below.trans h (Below.mono k h.size)
theorem Later.drewN (w : World) (n : Nat) : Later w (w.drewN n) := by
  have h := World.drewN_alike w n
  exact ⟨rfl, rfl, rfl, Nat.le_refl _, fun _ _ => rfl⟩
theorem Later.drew (w : World) : Later w w.drew := ⟨rfl, rfl, rfl, Nat.le_refl _, fun _ _ => rfl⟩
theorem Later.alloc (w : World) (o : Obj) : Later w (w.alloc o) := (Below.refl _ _).alloc (Nat.le_refl _) o
theorem Later.cell {w w' : World} (h : Later w w') {a : Addr} {v : Value} (hc : w.cell? a = some v) : w'.cell? a = some v :=
  cell_keep hc (h.block _ (World.block_lt_of_cell? w a hc))
theorem Later.frozen {w w' : World} (h : Later w w') {a : Addr} {v : Value} (hc : w.cell? a = some v) (hf : w.frozen? a = false) : w'.frozen? a = false :=
  (Below.frozen h (World.block_lt_of_cell? w a hc)).trans hf
theorem Ints.later {w w' : World} {v : Value} {zs : List Int} (h : Ints w v zs) (k : Later w w') : Ints w' v zs := by
  obtain ⟨a, cap, rfl, hl, hc⟩ := h
  refine ⟨a, cap, rfl, hl, fun i hi => ?_⟩
  obtain ⟨ad, rfl, hx⟩ := hc i hi
  exact ⟨ad, rfl, k.cell hx⟩
theorem Rows2.later {w w' : World} {v : Value} {zss : List (List Int)} (h : Rows2 w v zss) (k : Later w w') : Rows2 w' v zss := by
  obtain ⟨a, cap, rfl, hl, hc⟩ := h
  refine ⟨a, cap, rfl, hl, fun i hi => ?_⟩
  obtain ⟨ad, u, rfl, hx, hu⟩ := hc i hi
  exact ⟨ad, u, rfl, k.cell hx, hu.later k⟩
theorem Ints.nil (w : World) (cap : Nat) : Ints w (.slice none 0 cap) [] := ⟨none, cap, rfl, Nat.zero_le _, fun i hi => absurd hi (Nat.not_lt_zero i)⟩
theorem Rows2.nil (w : World) (cap : Nat) : Rows2 w (.slice none 0 cap) [] := ⟨none, cap, rfl, Nat.zero_le _, fun i hi => absurd hi (Nat.not_lt_zero i)⟩

/-! ### what the call made: it can be written, and its blocks lie in lo .. hi-1 -/

def OwnInts (lo hi : Nat) (w : World) (v : Value) (zs : List Int) : Prop :=
  w.ownsRow lo 3 1 v zs.length (zs.map (Value.int .i64)) ∧ ∀ k, v.ownBlock = some k → k < hi

def OwnRows (lo hi : Nat) (w : World) (v : Value) (zss : List (List Int)) : Prop :=
  ∃ us : List Value, us.length = zss.length ∧ w.ownsRow lo 24 1 v us.length us ∧ (∀ k, v.ownBlock = some k → k < hi) ∧
    (∀ i, i < zss.length → OwnInts lo hi w (us.getD i undef) (zss.getD i [])) ∧
    ∀ i j, i < j → j < zss.length → ∀ k, (us.getD i undef).ownBlock = some k → (us.getD j undef).ownBlock ≠ some k

theorem ownsRow_keep {w w' : World} {lo : Nat} {e : TypeId} {v : Value} {n : Nat} {xs : List Value} (h : w.ownsRow lo e 1 v n xs)
    (k : ∀ b, v.ownBlock = some b → w'.heap[b]? = w.heap[b]?) : w'.ownsRow lo e 1 v n xs := by
  refine ⟨h.1, ?_⟩
  rcases h.2 with hn | ⟨g, cap, cur, rfl, hb, hgg, rest⟩
  · exact .inl hn
  · exact .inr ⟨g, cap, cur, rfl, hb, (k g rfl).trans hgg, rest⟩
theorem ownsRow_base {w : World} {lo lo' : Nat} {e : TypeId} {v : Value} {n : Nat} {xs : List Value} (h : w.ownsRow lo e 1 v n xs) (hl : lo' ≤ lo) : w.ownsRow lo' e 1 v n xs := by
  refine ⟨h.1, ?_⟩
  rcases h.2 with hn | ⟨g, cap, cur, rfl, hb, rest⟩
  · exact .inl hn
  · exact .inr ⟨g, cap, cur, rfl, Nat.le_trans hl hb, rest⟩
theorem OwnInts.keep {w w' : World} {lo hi : Nat} {v : Value} {zs : List Int} (h : OwnInts lo hi w v zs) (k : ∀ b, lo ≤ b → b < hi → w'.heap[b]? = w.heap[b]?) : OwnInts lo hi w' v zs :=
  ⟨ownsRow_keep h.1 fun b hb => k b (h.1.lt b hb).1 (h.2 b hb), h.2⟩
theorem OwnRows.keep {w w' : World} {lo hi : Nat} {v : Value} {zss : List (List Int)} (h : OwnRows lo hi w v zss) (k : ∀ b, lo ≤ b → b < hi → w'.heap[b]? = w.heap[b]?) : OwnRows lo hi w' v zss := by
  obtain ⟨us, hl, ho, hb, hr, hd⟩ := h
  exact ⟨us, hl, ownsRow_keep ho fun b hb' => k b (ho.lt b hb').1 (hb b hb'), hb, fun i hi => (hr i hi).keep k, hd⟩
theorem OwnInts.wide {w : World} {lo hi lo' hi' : Nat} {v : Value} {zs : List Int} (h : OwnInts lo hi w v zs) (hl : lo' ≤ lo) (hh : hi ≤ hi') : OwnInts lo' hi' w v zs :=
  ⟨ownsRow_base h.1 hl, fun k hk => Nat.lt_of_lt_of_le (h.2 k hk) hh⟩
theorem OwnRows.wide {w : World} {lo hi lo' hi' : Nat} {v : Value} {zss : List (List Int)} (h : OwnRows lo hi w v zss) (hl : lo' ≤ lo) (hh : hi ≤ hi') : OwnRows lo' hi' w v zss := by
  obtain ⟨us, hu, ho, hb, hr, hd⟩ := h
  exact ⟨us, hu, ownsRow_base ho hl, fun k hk => Nat.lt_of_lt_of_le (hb k hk) hh, fun i hi => (hr i hi).wide hl hh, hd⟩
theorem OwnInts.later {w w' : World} {lo hi : Nat} {v : Value} {zs : List Int} (h : OwnInts lo hi w v zs) (k : Later w w') : OwnInts lo hi w' v zs :=
  ⟨ownsRow_keep h.1 fun b hb => k.block b (h.1.lt b hb).2, h.2⟩
theorem OwnRows.later {w w' : World} {lo hi : Nat} {v : Value} {zss : List (List Int)} (h : OwnRows lo hi w v zss) (k : Later w w') : OwnRows lo hi w' v zss := by
  obtain ⟨us, hl, ho, hb, hr, hd⟩ := h
  exact ⟨us, hl, ownsRow_keep ho fun b hb' => k.block b (ho.lt b hb').2, hb, fun i hi => (hr i hi).later k, hd⟩

theorem addr_add0 (g j : Nat) : (⟨g, 0, none⟩ : Addr).add j = ⟨g, j, none⟩ := by
  unfold Addr.add; split <;> simp_all
theorem ownsRow_shape {w : World} {lo : Nat} {e : TypeId} {v : Value} {n : Nat} {xs : List Value} (h : w.ownsRow lo e 1 v n xs) :
    ∃ a cap, v = .slice a n cap ∧ n ≤ cap ∧ n ≤ 9223372036854775807 ∧ xs.length = n ∧ ∀ i, i < n → ∃ g, a = some ⟨g, 0, none⟩ ∧ w.cell? ⟨g, i, none⟩ = xs[i]? := by
  have hx : xs.length = n := by have := h.1; simpa using this
  rcases h.2 with ⟨rfl, rfl⟩ | ⟨g, cap, cur, rfl, hb, hg, hn, hm, hs, ht⟩
  · exact ⟨none, 0, rfl, Nat.le_refl _, Nat.zero_le _, hx, fun i hi => absurd hi (Nat.not_lt_zero i)⟩
  · refine ⟨_, cap, rfl, hn, by unfold maxLen at hm; omega, hx, fun i hi => ⟨g, rfl, ?_⟩⟩
    have h' : w.ownsRow lo e 1 (.slice (some ⟨g, 0, none⟩) n cap) n xs := ⟨h.1, .inr ⟨g, cap, cur, rfl, hb, hg, hn, hm, hs, ht⟩⟩
    exact h'.cellAt i (by omega)
theorem OwnInts.ints {w : World} {lo hi : Nat} {v : Value} {zs : List Int} (h : OwnInts lo hi w v zs) : Ints w v zs := by
  obtain ⟨a, cap, rfl, _, hm, _, hc⟩ := ownsRow_shape h.1
  refine ⟨a, cap, rfl, hm, fun i hi => ?_⟩
  obtain ⟨g, rfl, hx⟩ := hc i hi
  refine ⟨_, rfl, ?_⟩
  rw [addr_add0, hx]
  simp [hi]
theorem OwnRows.rows {w : World} {lo hi : Nat} {v : Value} {zss : List (List Int)} (h : OwnRows lo hi w v zss) : Rows2 w v zss := by
  obtain ⟨us, hl, ho, hb, hr, hd⟩ := h
  obtain ⟨a, cap, rfl, _, hm, _, hc⟩ := ownsRow_shape ho
  refine ⟨a, cap, by rw [hl], by omega, fun i hi => ?_⟩
  obtain ⟨g, rfl, hx⟩ := hc i (by omega)
  refine ⟨_, us.getD i undef, rfl, ?_, (hr i hi).ints⟩
  rw [addr_add0, hx]
  simp [hl, hi]

theorem getD_at (zs : List Int) (k : Nat) (h : k < zs.length) : zs.getD k 0 = zs[k] := by simp [h]
theorem take_snoc {α : Type} (zs : List α) (k : Nat) (h : k < zs.length) : zs.take (k + 1) = zs.take k ++ [zs[k]] := List.take_succ_eq_append_getElem h
theorem take_all {α : Type} (zs : List α) (k : Nat) (h : zs.length ≤ k) : zs.take k = zs := List.take_of_length_le h
theorem all_take_succ {α : Type} (p : α → Bool) (zs : List α) (k : Nat) (h : k < zs.length) (ha : (zs.take k).all p = true) (hp : p zs[k] = true) : (zs.take (k + 1)).all p = true := by
  rw [List.take_succ_eq_append_getElem h, List.all_append, ha]; simp [hp]
theorem all_false_at {α : Type} (p : α → Bool) (zs : List α) (k : Nat) (h : k < zs.length) (hp : p zs[k] = false) : zs.all p = false := by
  rw [List.all_eq_false]; exact ⟨zs[k], List.getElem_mem h, by simp [hp]⟩
/-- A row filled from its head on: one more. -/
theorem set_take (xs : List Value) (ys : List Value) (k : Nat) (u : Value) (h : k < xs.length) (hx : xs.take k = ys) : (xs.set k u).take (k + 1) = ys ++ [u] := by
  rw [List.take_succ_eq_append_getElem (by simpa using h), List.take_set_of_le (Nat.le_refl _), hx]; simp


theorem Try.infoInt : (Try.prog.info? 3).map (fun i => (i.zero, i.size, i.bytes)) = some (some (.int .i64 0), 1, 8) := by kernel_rfl
theorem Try.infoInts : (Try.prog.info? 24).map (fun i => (i.zero, i.size, i.bytes)) = some (some (.slice none 0 0), 1, 24) := by kernel_rfl

/-! ### szIntS, szIntSS, szMatrix: what is left of the bound, or -1 -/

def SzRes1 (n : Nat) (l : Int) (e : Ending) : Prop := ∃ r : Int, e = .returned (.int .i64 r) ∧ (r = -1 ∨ (0 ≤ r ∧ r ≤ l ∧ (n : Int) ≤ l))
def SzOk (zss : List (List Int)) (l r : Int) : Prop := r = -1 ∨ (0 ≤ r ∧ r ≤ l ∧ (zss.length : Int) ≤ l ∧ ∀ i, i < zss.length → ((zss.getD i []).length : Int) ≤ l)
def SzRes2 (zss : List (List Int)) (l : Int) (e : Ending) : Prop := ∃ r : Int, e = .returned (.int .i64 r) ∧ SzOk zss l r

/-- What a call that makes a row of ints leaves. -/
def MadeInts (w : World) (zs : List Int) (e : Ending) (w' : World) : Prop := ∃ v, e = .returned v ∧ OwnInts w.heap.size w'.heap.size w' v zs ∧ Later w w'
def MadeRows (w : World) (zss : List (List Int)) (e : Ending) (w' : World) : Prop := ∃ v, e = .returned v ∧ OwnRows w.heap.size w'.heap.size w' v zss ∧ Later w w'
def MadeMat (w : World) (zss : List (List Int)) (e : Ending) (w' : World) : Prop := ∃ v, e = .returned (.agg #[v]) ∧ OwnRows w.heap.size w'.heap.size w' v zss ∧ Later w w'

/-- A row of n cells whose first k hold the first k of us. -/
def Filled (lo : Nat) (e : TypeId) (w : World) (v : Value) (n k : Nat) (us : List Value) : Prop := ∃ xs, w.ownsRow lo e 1 v n xs ∧ xs.take k = us.take k
theorem Filled.step {lo : Nat} {e : TypeId} {w : World} {g n cap k : Nat} {us : List Value} {u : Value} (h : Filled lo e w (.slice (some ⟨g, 0, none⟩) n cap) n k us) (hk : k < n) (hu : us[k]? = some u) :
    Filled lo e (w.setCell ⟨g, k, none⟩ u) (.slice (some ⟨g, 0, none⟩) n cap) n (k + 1) us := by
  obtain ⟨xs, ho, hx⟩ := h
  have hl : xs.length = n := by have := ho.1; simpa using this
  refine ⟨xs.set k u, (ho.stored k u).1, ?_⟩
  rw [set_take xs (us.take k) k u (by omega) hx]
  rw [List.take_add_one, hu]; rfl
theorem Filled.full {lo : Nat} {e : TypeId} {w : World} {v : Value} {n : Nat} {us : List Value} (h : Filled lo e w v n n us) (hn : us.length = n) : w.ownsRow lo e 1 v n us := by
  obtain ⟨xs, ho, hx⟩ := h
  have hl : xs.length = n := by have := ho.1; simpa using this
  rw [List.take_of_length_le (by omega), List.take_of_length_le (by omega)] at hx
  rw [← hx]; exact ho
/-- the cell that the next store hits -/
theorem Filled.at {lo : Nat} {e : TypeId} {w : World} {g n cap k : Nat} {us : List Value} (h : Filled lo e w (.slice (some ⟨g, 0, none⟩) n cap) n k us) (hk : k < n) :
    (∃ u, w.cell? ⟨g, k, none⟩ = some u) ∧ w.frozen? ⟨g, k, none⟩ = false := by
  obtain ⟨xs, ho, hx⟩ := h
  have hl : xs.length = n := by have := ho.1; simpa using this
  refine ⟨⟨xs[k]'(by omega), ?_⟩, ho.frozenAt k⟩
  rw [ho.cellAt k (by omega)]; simp [hl, hk]

/-- A row of n cells, the first k of which hold rows of ints of the call's own. -/
def RowsTo (lo : Nat) (w : World) (v : Value) (n k : Nat) (zss : List (List Int)) : Prop :=
  ∃ xs us : List Value, w.ownsRow lo 24 1 v n xs ∧ us.length = k ∧ xs.take k = us ∧ (∀ i, i < k → OwnInts lo w.heap.size w (us.getD i undef) (zss.getD i [])) ∧
    ∀ i j, i < j → j < k → ∀ b, (us.getD i undef).ownBlock = some b → (us.getD j undef).ownBlock ≠ some b
theorem RowsTo.start {lo : Nat} {w : World} {v : Value} {n : Nat} {xs : List Value} {zss : List (List Int)} (h : w.ownsRow lo 24 1 v n xs) : RowsTo lo w v n 0 zss :=
  ⟨xs, [], h, rfl, by simp, fun i hi => absurd hi (Nat.not_lt_zero i), fun i j _ hj => absurd hj (Nat.not_lt_zero j)⟩
theorem RowsTo.at {lo : Nat} {w : World} {g n cap k : Nat} {zss : List (List Int)} (h : RowsTo lo w (.slice (some ⟨g, 0, none⟩) n cap) n k zss) (hk : k < n) :
    (∃ u, w.cell? ⟨g, k, none⟩ = some u) ∧ w.frozen? ⟨g, k, none⟩ = false := by
  obtain ⟨xs, us, ho, _, hx, _⟩ := h
  have hl : xs.length = n := by have := ho.1; simpa using this
  refine ⟨⟨xs[k]'(by omega), ?_⟩, ho.frozenAt k⟩
  rw [ho.cellAt k (by omega)]; simp [hl, hk]
theorem RowsTo.at_later {lo : Nat} {w w1 : World} {g n cap k : Nat} {zss : List (List Int)} (h : RowsTo lo w (.slice (some ⟨g, 0, none⟩) n cap) n k zss) (hL : Later w w1) (hk : k < n) :
    (∃ u, w1.cell? ⟨g, k, none⟩ = some u) ∧ w1.frozen? ⟨g, k, none⟩ = false := by
  obtain ⟨⟨u, hu⟩, hf⟩ := h.at hk
  exact ⟨⟨u, hL.cell hu⟩, hL.frozen hu hf⟩
theorem ownsRow_head {w : World} {lo : Nat} {e : TypeId} {g n cap m : Nat} {xs : List Value} (h : w.ownsRow lo e 1 (.slice (some ⟨g, 0, none⟩) n cap) m xs) : ∃ cur, w.heap[g]? = some (.cells cur e (0, 0)) := by
  rcases h.2 with ⟨h', _⟩ | ⟨g', cap', cur, h', _, hg, _⟩
  · simp at h'
  · simp only [Value.slice.injEq, Option.some.injEq, Addr.mk.injEq, and_true] at h'
    obtain ⟨rfl, _, _⟩ := h'
    exact ⟨cur, hg⟩
theorem ownsRow_block {w : World} {lo : Nat} {e : TypeId} {v : Value} {m b : Nat} {xs : List Value} (h : w.ownsRow lo e 1 v m xs) (hb : v.ownBlock = some b) : ∃ cur, w.heap[b]? = some (.cells cur e (0, 0)) := by
  rcases h.2 with ⟨rfl, _⟩ | ⟨g', cap', cur, rfl, _, hg, _⟩
  · simp [Value.ownBlock] at hb
  · simp [Value.ownBlock] at hb; subst hb; exact ⟨cur, hg⟩
/-- Ints in another block than one of slices. -/
theorem OwnInts.ne {lo hi : Nat} {w : World} {v : Value} {zs : List Int} (h : OwnInts lo hi w v zs) {g : Nat} {cur : Array Value} (hg : w.heap[g]? = some (.cells cur 24 (0, 0))) : v.ownBlock ≠ some g := by
  intro hb
  obtain ⟨c, hc⟩ := ownsRow_block h.1 hb
  rw [hg] at hc
  simp at hc
theorem OwnInts.setCell {lo hi : Nat} {w : World} {v : Value} {zs : List Int} (h : OwnInts lo hi w v zs) {a : Addr} (ha : v.ownBlock ≠ some a.block) (u : Value) : OwnInts lo hi (w.setCell a u) v zs :=
  ⟨ownsRow_keep h.1 fun b hb => heap_setCell_other w a b u (fun e => ha (by rw [hb, e])), h.2⟩
theorem RowsTo.step {lo : Nat} {w w1 : World} {g n cap k : Nat} {zss : List (List Int)} {u : Value} (h : RowsTo lo w (.slice (some ⟨g, 0, none⟩) n cap) n k zss) (hk : k < n) (hlo : lo ≤ w.heap.size)
    (hL : Later w w1) (hu : OwnInts w.heap.size w1.heap.size w1 u (zss.getD k [])) :
    RowsTo lo (w1.setCell ⟨g, k, none⟩ u) (.slice (some ⟨g, 0, none⟩) n cap) n (k + 1) zss := by
  obtain ⟨xs, us, ho, hul, hx, hin, hd⟩ := h
  have hl : xs.length = n := by have := ho.1; simpa using this
  have ho1 : w1.ownsRow lo 24 1 (.slice (some ⟨g, 0, none⟩) n cap) n xs := ownsRow_keep ho fun b hb => hL.block b (ho.lt b hb).2
  obtain ⟨cur, hcur⟩ := ownsRow_head ho1
  have hsz : (w1.setCell ⟨g, k, none⟩ u).heap.size = w1.heap.size := by simp [World.setCell]
  refine ⟨xs.set k u, us ++ [u], (ho1.stored k u).1, by simp [hul], by rw [set_take xs us k u (by omega) hx], ?_, ?_⟩
  · intro i hi
    rw [hsz]
    by_cases hik : i = k
    · subst hik
      rw [show (us ++ [u]).getD i undef = u by simp [← hul]]
      exact (hu.wide hlo (Nat.le_refl _)).setCell (hu.ne hcur) u
    · rw [show (us ++ [u]).getD i undef = us.getD i undef by simp [List.getElem?_append_left (show i < us.length by omega)]]
      have h1 := ((hin i (by omega)).later hL).wide (Nat.le_refl lo) hL.size
      exact h1.setCell (h1.ne hcur) u
  · intro i j hij hj b hb
    rw [show (us ++ [u]).getD i undef = us.getD i undef by simp [List.getElem?_append_left (show i < us.length by omega)]] at hb
    by_cases hjk : j = k
    · subst hjk
      rw [show (us ++ [u]).getD j undef = u by simp [← hul]]
      intro hb2
      have h1 := (hin i hij).2 b hb
      have h2 := (hu.1.lt b hb2).1
      omega
    · rw [show (us ++ [u]).getD j undef = us.getD j undef by simp [List.getElem?_append_left (show j < us.length by omega)]]
      exact hd i j hij (by omega) b hb
theorem RowsTo.full {lo : Nat} {w : World} {v : Value} {zss : List (List Int)} (h : RowsTo lo w v zss.length zss.length zss) : OwnRows lo w.heap.size w v zss := by
  obtain ⟨xs, us, ho, hul, hx, hin, hd⟩ := h
  have hl : xs.length = zss.length := by have := ho.1; simpa using this
  rw [List.take_of_length_le (by omega)] at hx
  subst hx
  exact ⟨xs, hul, by rw [hul]; exact ho, fun b hb => (ho.lt b hb).2, hin, hd⟩

theorem OwnRows.shape {w : World} {lo hi : Nat} {v : Value} {zss : List (List Int)} (h : OwnRows lo hi w v zss) : ∃ a cap, v = .slice a zss.length cap ∧ zss.length ≤ cap := by
  obtain ⟨us, hl, ho, _⟩ := h
  obtain ⟨a, cap, rfl, h1, _⟩ := ownsRow_shape ho
  exact ⟨a, cap, by rw [hl], by omega⟩
theorem OwnInts.shape {w : World} {lo hi : Nat} {v : Value} {zs : List Int} (h : OwnInts lo hi w v zs) : ∃ a cap, v = .slice a zs.length cap ∧ zs.length ≤ cap := by
  obtain ⟨a, cap, rfl, h1, _⟩ := ownsRow_shape h.1
  exact ⟨a, cap, rfl, h1⟩
theorem OwnRows.setCell {lo hi : Nat} {w : World} {v : Value} {zss : List (List Int)} (h : OwnRows lo hi w v zss) {a : Addr} (ha : a.block < lo) (u : Value) : OwnRows lo hi (w.setCell a u) v zss :=
  h.keep fun b hb _ => heap_setCell_other w a b u (by omega)
theorem OwnInts.setCell_below {lo hi : Nat} {w : World} {v : Value} {zs : List Int} (h : OwnInts lo hi w v zs) {a : Addr} (ha : a.block < lo) (u : Value) : OwnInts lo hi (w.setCell a u) v zs :=
  h.keep fun b hb _ => heap_setCell_other w a b u (by omega)

/-- The world after some draws. -/
def Drew (w w' : World) : Prop := ∃ n, w' = w.drewN n
theorem Drew.refl (w : World) : Drew w w := ⟨0, rfl⟩
theorem Drew.later {w w' : World} (h : Drew w w') : Later w w' := by
  obtain ⟨n, rfl⟩ := h; exact Later.drewN w n
theorem Drew.step {w w' : World} (h : Drew w w') (n : Nat) : Drew w (w'.drewN n) := by
  obtain ⟨m, rfl⟩ := h; exact ⟨m + n, by simp⟩
theorem Ints.drewN {w : World} {v : Value} {zs : List Int} (h : Ints w v zs) (n : Nat) : Ints (w.drewN n) v zs := h.later (Later.drewN w n)
theorem Rows2.drewN {w : World} {v : Value} {zs : List (List Int)} (h : Rows2 w v zs) (n : Nat) : Rows2 (w.drewN n) v zs := h.later (Later.drewN w n)

def eqL (xs ys : List Int) : Bool := decide (xs = ys)
def eqLL (xs ys : List (List Int)) : Bool := decide (xs = ys)

theorem list_eq_of {α : Type} {xs ys : List α} (hl : xs.length = ys.length) (h : ∀ i (hx : i < xs.length) (hy : i < ys.length), xs[i] = ys[i]) : xs = ys :=
  List.ext_getElem hl h

theorem eqLL_false {xs ys : List (List Int)} (k : Nat) (hn : eqL (xs.getD k []) (ys.getD k []) = false) : eqLL xs ys = false := by
  unfold eqLL; unfold eqL at hn
  rw [decide_eq_false_iff_not] at hn ⊢
  intro e; subst e; exact hn rfl

def iota (k : Int) (n : Nat) : List Int := (List.range n).map fun i : Nat => k + (i : Int)
theorem iota_length (k : Int) (n : Nat) : (iota k n).length = n := by simp [iota]
theorem iota_at (k : Int) (n i : Nat) (h : i < n) : (iota k n).getD i 0 = k + i := by simp [iota, h]
/-- how many cells lie before row j -/
def off (zss : List (List Int)) (j : Nat) : Nat := ((zss.take j).map List.length).sum
theorem off_zero (zss : List (List Int)) : off zss 0 = 0 := by simp [off]
theorem off_succ (zss : List (List Int)) (j : Nat) (h : j < zss.length) : off zss (j + 1) = off zss j + (zss.getD j []).length := by
  unfold off; rw [take_snoc zss j h, List.map_append, List.sum_append]; simp [h]
theorem off_mono (zss : List (List Int)) (d j : Nat) : off zss j ≤ off zss (j + d) := by
  induction d with
  | zero => exact Nat.le_refl _
  | succ d ih =>
    by_cases h : j + d < zss.length
    · have := off_succ zss (j + d) h; rw [← Nat.add_assoc]; omega
    · have : off zss (j + (d + 1)) = off zss (j + d) := by
        unfold off; rw [List.take_of_length_le (by omega), List.take_of_length_le (show zss.length ≤ j + d by omega)]
      omega
theorem off_le (zss : List (List Int)) (j m : Nat) (h : j ≤ m) : off zss j ≤ off zss m := by
  have := off_mono zss (m - j) j; rwa [show j + (m - j) = m by omega] at this
theorem off_bound (zss : List (List Int)) (M n : Nat) (h : ∀ i, i < zss.length → (zss.getD i []).length ≤ M) (hn : n ≤ zss.length) : off zss n ≤ n * M := by
  induction n with
  | zero => simp [off_zero]
  | succ n ih =>
    have h1 := off_succ zss n (by omega)
    have h2 := h n (by omega)
    have h3 := ih (by omega)
    rw [Nat.add_mul]; omega
theorem off_args (zss : List (List Int)) (h : ∀ i, i < zss.length → (zss.getD i []).length ≤ 1048576) (hn : zss.length ≤ 1048576) : off zss zss.length ≤ 1099511627776 := by
  have h1 := off_bound zss 1048576 zss.length h (Nat.le_refl _)
  have h2 := Nat.mul_le_mul_right 1048576 hn
  omega
def marks (k : Int) (zss : List (List Int)) : List (List Int) := (List.range zss.length).map fun j => iota (k + off zss j) (zss.getD j []).length
theorem marks_length (k : Int) (zss : List (List Int)) : (marks k zss).length = zss.length := by simp [marks]
theorem marks_at (k : Int) (zss : List (List Int)) (j : Nat) (h : j < zss.length) : (marks k zss).getD j [] = iota (k + off zss j) (zss.getD j []).length := by simp [marks, h]

/-- Only blocks that B tells may have turned. -/
structure Wrote (B : Nat → Prop) (w w' : World) : Prop where
  os : w'.os = w.os
  tape : w'.tape = w.tape
  output : w'.output = w.output
  size : w'.heap.size = w.heap.size
  block : ∀ k, ¬ B k → w'.heap[k]? = w.heap[k]?
theorem Wrote.refl (B : Nat → Prop) (w : World) : Wrote B w w := ⟨rfl, rfl, rfl, rfl, fun _ _ => rfl⟩
theorem Wrote.trans {B : Nat → Prop} {a b c : World} (h : Wrote B a b) (k : Wrote B b c) : Wrote B a c :=
  ⟨k.os.trans h.os, k.tape.trans h.tape, k.output.trans h.output, k.size.trans h.size, fun i hi => (k.block i hi).trans (h.block i hi)⟩
theorem Wrote.mono {B C : Nat → Prop} {a b : World} (h : Wrote B a b) (k : ∀ i, B i → C i) : Wrote C a b :=
  ⟨h.os, h.tape, h.output, h.size, fun i hi => h.block i fun hb => hi (k i hb)⟩
theorem Wrote.setCell {B : Nat → Prop} (w : World) (a : Addr) (u : Value) (h : B a.block) : Wrote B w (w.setCell a u) :=
  ⟨rfl, rfl, rfl, by simp [World.setCell], fun k hk => heap_setCell_other w a k u (fun e => hk (by rw [e]; exact h))⟩
/-- A call that made what it wrote. -/
theorem Wrote.below {B : Nat → Prop} {n : Nat} {a b c : World} (h : Below n a b) (k : Wrote B b c) (hB : ∀ i, B i → n ≤ i) : Below n a c :=
  h.trans ⟨k.os, k.tape, k.output, Nat.le_of_eq k.size.symm, fun i hi => k.block i fun hb => by have := hB i hb; omega⟩

def MarkRes1 (lo hi : Nat) (w : World) (v : Value) (n : Nat) (k : Int) (e : Ending) (w' : World) : Prop :=
  e = .returned (.int .i64 (k + n)) ∧ OwnInts lo hi w' v (iota k n) ∧ Wrote (fun b => v.ownBlock = some b) w w'

theorem OwnInts.form {lo hi : Nat} {w : World} {v : Value} {zs : List Int} (h : OwnInts lo hi w v zs) : (v = .slice none 0 0 ∧ zs = []) ∨ ∃ g cap, v = .slice (some ⟨g, 0, none⟩) zs.length cap := by
  rcases h.1.2 with ⟨rfl, h0⟩ | ⟨g, cap, cur, rfl, _⟩
  · exact .inl ⟨rfl, List.eq_nil_of_length_eq_zero h0⟩
  · exact .inr ⟨g, cap, rfl⟩

theorem OwnRows.row {w : World} {lo hi i : Nat} {v : Value} {zss : List (List Int)} (h : OwnRows lo hi w v zss) (hi' : i < zss.length) :
    ∃ g cap u, v = .slice (some ⟨g, 0, none⟩) zss.length cap ∧ w.cell? ((⟨g, 0, none⟩ : Addr).add i) = some u ∧ OwnInts lo hi w u (zss.getD i []) ∧
      ∀ w2 zs', OwnInts lo hi w2 u zs' → Wrote (fun b => u.ownBlock = some b) w w2 → OwnRows lo hi w2 v (zss.set i zs') := by
  obtain ⟨us, hl, ho, hb, hr, hd⟩ := h
  have hne : us.length ≠ 0 := by omega
  have ho' := ho
  rcases ho.2 with ⟨_, h0⟩ | ⟨g, cap, cur, rfl, hg⟩
  · exact absurd h0 hne
  · rw [hl]
    rw [hl] at ho'
    obtain ⟨cur', hcur⟩ := ownsRow_head ho'
    refine ⟨g, cap, us.getD i undef, rfl, ?_, hr i hi', fun w2 zs' h2 hW => ?_⟩
    · rw [addr_add0, ho'.cellAt i (by omega)]; simp [hl, hi']
    · have hnb : (us.getD i undef).ownBlock ≠ some g := (hr i hi').ne hcur
      refine ⟨us, by simp [hl], ?_, hb, ?_, ?_⟩
      · rw [hl]
        refine ownsRow_keep ho' fun b hbb => hW.block b ?_
        simp [Value.ownBlock] at hbb
        subst hbb; exact hnb
      · intro j hj
        simp only [List.length_set] at hj
        by_cases hij : i = j
        · subst hij
          rw [show (zss.set i zs').getD i [] = zs' by simp [hj]]
          exact h2
        · rw [show (zss.set i zs').getD j [] = zss.getD j [] by simp [List.getElem?_set_ne hij]]
          have h3 := hr j hj
          refine ⟨ownsRow_keep h3.1 fun b hbb => hW.block b fun hc => ?_, h3.2⟩
          rcases Nat.lt_or_gt_of_ne hij with hlt | hlt
          · exact hd i j hlt hj b hc hbb
          · exact hd j i hlt hi' b hbb hc
      · intro a b hab hbl; simp only [List.length_set] at hbl; exact hd a b hab hbl

theorem OwnInts.blk {w : World} {lo hi b : Nat} {v : Value} {zs : List Int} (h : OwnInts lo hi w v zs) (hb : v.ownBlock = some b) : lo ≤ b ∧ b < hi := ⟨(h.1.lt b hb).1, h.2 b hb⟩

def MarkRes2 (lo hi : Nat) (w : World) (v : Value) (zss : List (List Int)) (k : Int) (e : Ending) (w' : World) : Prop :=
  e = .returned (.int .i64 (k + (off zss zss.length : Nat))) ∧ OwnRows lo hi w' v (marks k zss) ∧ Wrote (fun b => lo ≤ b ∧ b < hi) w w'

/-- the first j rows are marked -/
def Marked (lo hi : Nat) (w0 w : World) (v : Value) (zss : List (List Int)) (k : Int) (j : Nat) : Prop :=
  ∃ L, L.length = zss.length ∧ L.take j = (marks k zss).take j ∧ L.drop j = zss.drop j ∧ OwnRows lo hi w v L ∧ Wrote (fun b => lo ≤ b ∧ b < hi) w0 w
theorem Marked.row {lo hi : Nat} {w0 w : World} {v : Value} {zss : List (List Int)} {k : Int} {j : Nat} (h : Marked lo hi w0 w v zss k j) (hj : j < zss.length) :
    ∃ g cap u, v = .slice (some ⟨g, 0, none⟩) zss.length cap ∧ w.cell? ((⟨g, 0, none⟩ : Addr).add j) = some u ∧ OwnInts lo hi w u (zss.getD j []) ∧
      ∀ w2, OwnInts lo hi w2 u (iota (k + off zss j) (zss.getD j []).length) → Wrote (fun b => u.ownBlock = some b) w w2 → Marked lo hi w0 w2 v zss k (j + 1) := by
  obtain ⟨L, hl, ht, hd, ho, hW⟩ := h
  have hLj : L.getD j [] = zss.getD j [] := by
    have h1 : (L.drop j).head? = (zss.drop j).head? := by rw [hd]
    simp only [List.head?_drop] at h1
    simp [List.getD_eq_getElem?_getD, h1]
  obtain ⟨g, cap, u, hv, hc, hu, hstep⟩ := ho.row (i := j) (by omega)
  rw [hLj] at hu
  refine ⟨g, cap, u, by rw [hv, hl], hc, hu, fun w2 h2 hW2 => ⟨L.set j (iota (k + off zss j) (zss.getD j []).length), by simp [hl], ?_, ?_, hstep w2 _ h2 hW2, hW.trans (hW2.mono fun b hb => hu.blk hb)⟩⟩
  · rw [List.take_succ_eq_append_getElem (by simp; omega), List.take_set_of_le (Nat.le_refl _), ht, take_snoc (marks k zss) j (by rw [marks_length]; exact hj)]
    have h5 := marks_at k zss j hj
    simp only [List.getD_eq_getElem?_getD, List.getElem?_eq_getElem (show j < (marks k zss).length by rw [marks_length]; exact hj), Option.getD_some] at h5
    rw [h5]; simp
  · rw [List.drop_set_of_lt (by omega), ← List.drop_drop, hd, List.drop_drop]

/-! ### held -/

def within (lo hi : Int) (z : Int) : Bool := decide (lo ≤ z) && decide (z ≤ hi)
def rowGood (m : Int) (n : Nat) (r : List Int) : Bool := decide (r.length = n) && r.all (within (-m) m)
def goodM (m : Int) (zss : List (List Int)) : Bool := decide (1 ≤ zss.length) && decide (zss.length ≤ 4) && zss.all (rowGood m zss.length)

theorem l1In_any (n lo hi : Int) (w : World) :
    Calls Try.prog 55 #[.int .i64 n, .int .i64 lo, .int .i64 hi] w fun e w' => e = .returned (.bool (within lo hi n)) ∧ w = w' := by
  by_cases h1 : lo ≤ n
  · go_enter Try.func55, Try.ntmps55
    go_wp2
    go_ret
    exact ⟨ret_bool (by simp [within, h1]), rfl⟩
  · have hb : decide (lo ≤ n) = false := by simpa using h1
    go_enter Try.func55, Try.ntmps55
    go_wp2
    go_ret
    exact ⟨ret_bool (by symm; simp only [within, Bool.and_eq_false_iff, decide_eq_false_iff_not]; omega), rfl⟩
theorem l1In_as (n lo hi : Int) (b : Bool) (w : World) (h : within lo hi n = b) :
    Calls Try.prog 55 #[.int .i64 n, .int .i64 lo, .int .i64 hi] w fun e w' => e = .returned (.bool b) ∧ w = w' := by
  subst h; exact l1In_any n lo hi w

set_option maxHeartbeats 400000 in
theorem l1All_any (v : Value) (zs : List Int) (lo hi : Int) (w : World) (h : Ints w v zs) :
    Calls Try.prog 91 #[v, .int .i64 lo, .int .i64 hi] w fun e w' => e = .returned (.bool (zs.all (within lo hi))) ∧ w = w' := by
  obtain ⟨a, cap, rfl, hl, hc⟩ := h
  have HC := hid hc; clear hc
  go_enter Try.func91, Try.ntmps91
  go_wp2
  go_loop [11] (fun i => ∃ k : Nat, k ≤ zs.length ∧ i = .int .i64 k ∧ (zs.take k).all (within lo hi) = true) (fun i => zs.length - (intOf i).toNat)
  case atStart => exact ⟨0, Nat.zero_le _, rfl, rfl⟩
  case round =>
    obtain ⟨k, hk, rfl, hal⟩ := hrel
    have HA := hid hal; clear hal
    by_cases hlt : k < zs.length
    · obtain ⟨ad, rfl, hcell⟩ := HC.out k hlt
      cases hb : within lo hi (zs.getD k 0)
      · have HB := hid hb; clear hb
        have hcell' := hcell; simp only [getD_at zs k hlt] at hcell' HB; clear hcell
        go_wp2_with fail
        refine (l1In_as _ _ _ _ _ HB.out).mono ?_
        rintro e w' ⟨rfl, rfl⟩
        go_wp2_with fail
        go_ret
        exact ⟨ret_bool (all_false_at _ zs k hlt HB.out).symm, rfl⟩
      · have HB := hid hb; clear hb
        have hcell' := hcell; simp only [getD_at zs k hlt] at hcell' HB; clear hcell
        go_wp2_with fail
        refine (l1In_as _ _ _ _ _ HB.out).mono ?_
        rintro e w' ⟨rfl, rfl⟩
        go_wp2_with fail
        go_round
        case rel => exact ⟨k + 1, hlt, by go_num, all_take_succ _ zs k hlt HA.out HB.out⟩
        case measure => simp [intOf]; omega
    · go_wp2
      go_ret
      exact ⟨ret_bool (by rw [← HA.out, List.take_of_length_le (by omega)]), rfl⟩
theorem l1All_as (v : Value) (zs : List Int) (lo hi : Int) (b : Bool) (w : World) (hb : zs.all (within lo hi) = b) (h : Ints w v zs) :
    Calls Try.prog 91 #[v, .int .i64 lo, .int .i64 hi] w fun e w' => e = .returned (.bool b) ∧ w = w' := by
  subst hb; exact l1All_any v zs lo hi w h

set_option maxHeartbeats 400000 in
theorem areWithin_any (v : Value) (zs : List Int) (m : Int) (w : World) (hm : 0 ≤ m ∧ m ≤ 1000000000) (h : Ints w v zs) :
    Calls Try.prog 125 #[v, .int .i64 m] w fun e w' => e = .returned (.bool (zs.all (within (-m) m))) ∧ w = w' := by
  obtain ⟨a, cap, rfl, hl, hc⟩ := h
  obtain ⟨hm0, hm1⟩ := hm
  have HC := hid hc; clear hc
  go_enter Try.func125, Try.ntmps125
  go_wp2
  go_loop [9] (fun i => ∃ k : Nat, k ≤ zs.length ∧ i = .int .i64 k ∧ (zs.take k).all (within (-m) m) = true) (fun i => zs.length - (intOf i).toNat)
  case atStart => exact ⟨0, Nat.zero_le _, rfl, rfl⟩
  case round =>
    obtain ⟨k, hk, rfl, hal⟩ := hrel
    have HA := hid hal; clear hal
    by_cases hlt : k < zs.length
    · obtain ⟨ad, rfl, hcell⟩ := HC.out k hlt
      by_cases h1 : zs[k] < -m
      · go_wp2
        go_ret
        exact ⟨ret_bool (all_false_at _ zs k hlt (by simp [within]; omega)).symm, rfl⟩
      · by_cases h2 : m < zs[k]
        · go_wp2
          go_ret
          exact ⟨ret_bool (all_false_at _ zs k hlt (by simp [within]; omega)).symm, rfl⟩
        · go_wp2
          go_round
          case rel => exact ⟨k + 1, hlt, by go_num, all_take_succ _ zs k hlt HA.out (by simp [within]; omega)⟩
          case measure => simp [intOf]; omega
    · go_wp2
      go_ret
      exact ⟨ret_bool (by rw [← HA.out, List.take_of_length_le (by omega)]), rfl⟩
theorem areWithin_as (v : Value) (zs : List Int) (m : Int) (b : Bool) (w : World) (hm : 0 ≤ m ∧ m ≤ 1000000000) (hb : zs.all (within (-m) m) = b) (h : Ints w v zs) :
    Calls Try.prog 125 #[v, .int .i64 m] w fun e w' => e = .returned (.bool b) ∧ w = w' := by
  subst hb; exact areWithin_any v zs m w hm h

theorem goodM_size (m : Int) (zss : List (List Int)) (h : ¬ (1 ≤ zss.length ∧ zss.length ≤ 4)) : goodM m zss = false := by
  unfold goodM; rw [← Bool.decide_and, decide_eq_false h]; rfl
theorem goodM_eq (m : Int) (zss : List (List Int)) (h : 1 ≤ zss.length ∧ zss.length ≤ 4) : goodM m zss = zss.all (rowGood m zss.length) := by
  unfold goodM; simp [h.1, h.2]
theorem rowGood_len (m : Int) (n : Nat) (r : List Int) (h : r.length ≠ n) : rowGood m n r = false := by simp [rowGood, h]
theorem rowGood_eq (m : Int) (n : Nat) (r : List Int) (h : r.length = n) : rowGood m n r = r.all (within (-m) m) := by simp [rowGood, h]
theorem getD_row (zss : List (List Int)) (k : Nat) (h : k < zss.length) : zss.getD k [] = zss[k] := by simp [h]

end Go.Proofs.Ytoaopmafokoaoaa
