/- Contracts of the generic helpers of the program that take a function value: sumOver, gridOf; for whatever function value that answers by a function of the indices. -/
import Derived.Test.YtmmapfdmdliifaaGood
import Derived.Deep.RegionHeld3
namespace Go.Proofs.Ytmmapfdmdliifaa
open Go.RowKit

/-- A sum as the program makes it: from the left, wrapping. -/
def wsum (f : Nat → Int) : Nat → Int
  | 0 => 0
  | k + 1 => wrap64 (wsum f k + f k)
theorem wsum_succ (f : Nat → Int) (k : Nat) : wsum f (k + 1) = wrap64 (wsum f k + f k) := rfl
theorem wsum_congr (f g : Nat → Int) (n : Nat) (h : ∀ i, i < n → f i = g i) : wsum f n = wsum g n := by
  induction n with
  | zero => rfl
  | succ n ih => rw [wsum_succ, wsum_succ, ih (fun i hi => h i (by omega)), h n (by omega)]

/-! ### gridOf -/

theorem Filled.keep {lo : Nat} {e : TypeId} {w w' : World} {v : Value} {n k : Nat} {us : List Value} (h : Filled lo e w v n k us) (hk : ∀ b, v.ownBlock = some b → w'.heap[b]? = w.heap[b]?) : Filled lo e w' v n k us := by
  obtain ⟨xs, ho, hx⟩ := h
  exact ⟨xs, ownsRow_keep ho hk, hx⟩

def mk (n : Nat) (f : Nat → Nat → Int) : List (List Int) := (List.range n).map fun i => (List.range n).map fun j => f i j
theorem mk_length (n : Nat) (f : Nat → Nat → Int) : (mk n f).length = n := by simp [mk]
theorem mk_row (n : Nat) (f : Nat → Nat → Int) (i : Nat) (h : i < n) : (mk n f).getD i [] = (List.range n).map (f i) := by simp [mk, h]
theorem mk_congr (n : Nat) (f g : Nat → Nat → Int) (h : ∀ i j, i < n → j < n → f i j = g i j) : mk n f = mk n g := by
  unfold mk
  exact List.map_congr_left fun i hi => List.map_congr_left fun j hj => h i j (List.mem_range.1 hi) (List.mem_range.1 hj)

/-- Blocks from B on that were there are as they were. -/
def Upper (B : Nat) (w w' : World) : Prop := w.heap.size ≤ w'.heap.size ∧ ∀ k, B ≤ k → k < w.heap.size → w'.heap[k]? = w.heap[k]?
theorem Upper.refl (B : Nat) (w : World) : Upper B w w := ⟨Nat.le_refl _, fun _ _ _ => rfl⟩
theorem Later.upper {w w' : World} (h : Later w w') (B : Nat) : Upper B w w' := ⟨h.size, fun k _ hk => h.block k hk⟩
theorem Upper.cell {B : Nat} {w w' : World} (h : Upper B w w') {a : Addr} {v : Value} (hc : w.cell? a = some v) (ha : B ≤ a.block) : w'.cell? a = some v :=
  cell_keep hc (h.2 _ ha (World.block_lt_of_cell? w a hc))
theorem Upper.frozen {B : Nat} {w w' : World} (h : Upper B w w') {a : Addr} {v : Value} (hc : w.cell? a = some v) (hf : w.frozen? a = false) (ha : B ≤ a.block) : w'.frozen? a = false :=
  (World.frozen?_of_block (h.2 _ ha (World.block_lt_of_cell? w a hc))).trans hf

theorem Filled.at_upper {lo B : Nat} {e : TypeId} {w w5 : World} {g n cap k : Nat} {us : List Value} (h : Filled lo e w (.slice (some ⟨g, 0, none⟩) n cap) n k us) (hU : Upper B w.drew w5) (hB : B ≤ g) (hk : k < n) :
    (∃ u, w5.cell? ⟨g, k, none⟩ = some u) ∧ w5.frozen? ⟨g, k, none⟩ = false := by
  obtain ⟨⟨u, hu⟩, hf⟩ := h.at hk
  exact ⟨⟨u, hU.cell (w := w.drew) hu hB⟩, hU.frozen (w := w.drew) hu hf hB⟩
theorem Filled.step_upper {lo B : Nat} {e : TypeId} {w w5 : World} {g n cap k : Nat} {us : List Value} {u : Value} (h : Filled lo e w (.slice (some ⟨g, 0, none⟩) n cap) n k us) (hU : Upper B w.drew w5) (hB : B ≤ g) (hg : g < w.heap.size) (hk : k < n) (hu : us[k]? = some u) :
    Filled lo e (w5.setCell ⟨g, k, none⟩ u) (.slice (some ⟨g, 0, none⟩) n cap) n (k + 1) us := by
  refine (h.keep (w' := w5) fun b hb => ?_).step hk hu
  simp [Value.ownBlock] at hb
  subst hb
  exact hU.2 _ hB hg
end Go.Proofs.Ytmmapfdmdliifaa
