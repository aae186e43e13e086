/- Rows of rows: one row, its parts, what stays where it grows. -/
import Derived.Test.YtofmmegpadojlaaBasB
import Derived.Test.YtofmmegpadojlaaIntC
namespace Go.Proofs.Ytofmmegpadojlaa
open Go.RowKit

theorem OwnRows.partsH {lo hi : Nat} {w : World} {v : Value} {L : List (List Int)} (h : OwnRows lo hi w v L) : ∃ us : List Value, us.length = L.length ∧ w.ownsRow lo 33 1 v us.length us ∧ (∀ k, v.ownBlock = some k → k < hi) ∧
    (∀ i, i < L.length → OwnInts lo hi w (us.getD i undef) (L.getD i [])) ∧
    ∀ i j, i < j → j < L.length → ∀ k, (us.getD i undef).ownBlock = some k → (us.getD j undef).ownBlock ≠ some k := h
/-- one row of its own -/
theorem OwnRows.oneH {lo : Nat} {w : World} {u : Value} {r : List Int} (hlo : lo ≤ w.heap.size) (h : OwnInts lo w.heap.size w u r) :
    OwnRows lo (w.heap.size + 1) (w.alloc (.cells #[u] 33)) (.slice (some ⟨w.heap.size, 0, none⟩) 1 1) [r] := by
  have ho := World.ownsRow_lit (e := 33) (size := 1) w #[u] 1 (Nat.le_refl _) (by unfold maxLen; omega) (by simp)
  refine ⟨[u], rfl, by simpa using ownsRow_base ho hlo, fun b hb => by simp [Value.ownBlock] at hb; omega, fun i hi => ?_, fun i j hij hj => by simp at hj; omega⟩
  have h0 : i = 0 := by simpa using hi
  subst h0
  exact (h.later (Later.alloc _ _)).wide (Nat.le_refl _) (by omega)
/-- a row of ints stays where a row of rows grows -/
theorem OwnInts.keptH {lo hi lo' n : Nat} {w w1 : World} {v u : Value} {zs : List Int} {us : List Value} (h : OwnInts lo hi w u zs) (ho : w.ownsRow lo' 33 1 v n us) (hg : w.grownBy w1 v.ownBlock) : OwnInts lo hi w1 u zs := by
  refine ⟨ownsRow_keep h.1 fun b hb => hg.block b (h.1.lt b hb).2 fun e => ?_, h.2⟩
  obtain ⟨c2, hc2⟩ := ownsRow_block ho e.symm
  exact h.ne hc2 hb
def lenOfH : Value → Nat
  | .slice _ n _ => n
  | _ => 0
theorem OwnRows.noneH (lo hi : Nat) (w : World) : OwnRows lo hi w (.slice none 0 0) [] :=
  ⟨[], rfl, World.ownsRow_nil _ _ _ _, fun b hb => by simp [Value.ownBlock] at hb, fun i hi => absurd hi (Nat.not_lt_zero i), fun i j _ hj => absurd hj (Nat.not_lt_zero j)⟩
end Go.Proofs.Ytofmmegpadojlaa
