/- Contracts of the copies that a law makes of its arguments: toIntS, toIntSS, toMatrix. -/
import Derived.Test.YtmmapfdmdliifaaHelp
namespace Go.Proofs.Ytmmapfdmdliifaa
open Go.RowKit

/-- What a call that makes a row of ints leaves. -/
def MadeInts (w : World) (zs : List Int) (e : Ending) (w' : World) : Prop := ∃ v, e = .returned v ∧ OwnInts w.heap.size w'.heap.size w' v zs ∧ Later w w'
/-- A row of n cells whose first k hold the first k of us. -/
def Filled (lo : Nat) (e : TypeId) (w : World) (v : Value) (n k : Nat) (us : List Value) : Prop := ∃ xs, w.ownsRow lo e 1 v n xs ∧ xs.take k = us.take k
theorem Filled.step {lo : Nat} {e : TypeId} {w : World} {g n cap k : Nat} {us : List Value} {u : Value} (h : Filled lo e w (.slice (some ⟨g, 0, none⟩) n cap) n k us) (hk : k < n) (hu : us[k]? = some u) :
    Filled lo e (w.setCell ⟨g, k, none⟩ u) (.slice (some ⟨g, 0, none⟩) n cap) n (k + 1) us := by
  obtain ⟨xs, ho, hx⟩ := h
  have hl : xs.length = n := by have := ho.1; simpa using this
  refine ⟨xs.set k u, (ho.stored k u).1, ?_⟩
  rw [set_take xs (us.take k) k u (by omega) hx]
  rw [List.take_add_one, hu]; rfl
theorem Filled.full {lo : Nat} {e : TypeId} {w : World} {v : Value} {n : Nat} {us : List Value} (h : Filled lo e w v n n us) (hn : us.length = n) : w.ownsRow lo e 1 v n us := by
  obtain ⟨xs, ho, hx⟩ := h
  have hl : xs.length = n := by have := ho.1; simpa using this
  rw [List.take_of_length_le (by omega), List.take_of_length_le (by omega)] at hx
  rw [← hx]; exact ho
/-- the cell that the next store hits -/
theorem Filled.at {lo : Nat} {e : TypeId} {w : World} {g n cap k : Nat} {us : List Value} (h : Filled lo e w (.slice (some ⟨g, 0, none⟩) n cap) n k us) (hk : k < n) :
    (∃ u, w.cell? ⟨g, k, none⟩ = some u) ∧ w.frozen? ⟨g, k, none⟩ = false := by
  obtain ⟨xs, ho, hx⟩ := h
  have hl : xs.length = n := by have := ho.1; simpa using this
  refine ⟨⟨xs[k]'(by omega), ?_⟩, ho.frozenAt k⟩
  rw [ho.cellAt k (by omega)]; simp [hl, hk]

theorem ownsRow_head {w : World} {lo : Nat} {e : TypeId} {g n cap m : Nat} {xs : List Value} (h : w.ownsRow lo e 1 (.slice (some ⟨g, 0, none⟩) n cap) m xs) : ∃ cur, w.heap[g]? = some (.cells cur e (0, 0)) := by
  rcases h.2 with ⟨h', _⟩ | ⟨g', cap', cur, h', _, hg, _⟩
  · simp at h'
  · simp only [Value.slice.injEq, Option.some.injEq, Addr.mk.injEq, and_true] at h'
    obtain ⟨rfl, _, _⟩ := h'
    exact ⟨cur, hg⟩
theorem ownsRow_block {w : World} {lo : Nat} {e : TypeId} {v : Value} {m b : Nat} {xs : List Value} (h : w.ownsRow lo e 1 v m xs) (hb : v.ownBlock = some b) : ∃ cur, w.heap[b]? = some (.cells cur e (0, 0)) := by
  rcases h.2 with ⟨rfl, _⟩ | ⟨g', cap', cur, rfl, _, hg, _⟩
  · simp [Value.ownBlock] at hb
  · simp [Value.ownBlock] at hb; subst hb; exact ⟨cur, hg⟩
theorem OwnInts.setCell {lo hi : Nat} {w : World} {v : Value} {zs : List Int} (h : OwnInts lo hi w v zs) {a : Addr} (ha : v.ownBlock ≠ some a.block) (u : Value) : OwnInts lo hi (w.setCell a u) v zs :=
  ⟨ownsRow_keep h.1 fun b hb => heap_setCell_other w a b u (fun e => ha (by rw [hb, e])), h.2⟩
theorem OwnInts.shape {w : World} {lo hi : Nat} {v : Value} {zs : List Int} (h : OwnInts lo hi w v zs) : ∃ a cap, v = .slice a zs.length cap ∧ zs.length ≤ cap := by
  obtain ⟨a, cap, rfl, h1, _⟩ := ownsRow_shape h.1
  exact ⟨a, cap, rfl, h1⟩
theorem OwnInts.setCell_below {lo hi : Nat} {w : World} {v : Value} {zs : List Int} (h : OwnInts lo hi w v zs) {a : Addr} (ha : a.block < lo) (u : Value) : OwnInts lo hi (w.setCell a u) v zs :=
  h.keep fun b hb _ => heap_setCell_other w a b u (by omega)

end Go.Proofs.Ytmmapfdmdliifaa
