/- Rows of solutions: Go's library's Compact. -/
import Derived.Test.YtjnhhjnfdaaaeabHuDm
import Derived.Deep.RegionHeld3
namespace Go.Proofs.Ytjnhhjnfdaaaeab
open Go.RowKit

/-- The first k of a row without what is equal to the one ahead of it. -/
def compT (L : List So) : Nat → List So
  | 0 => []
  | k + 1 => compT L k ++ (if k = 0 ∨ L.getD k noSo ≠ L.getD (k - 1) noSo then [L.getD k noSo] else [])
theorem compT_le (L : List So) (k : Nat) : (compT L k).length ≤ k := by
  induction k with
  | zero => simp [compT]
  | succ k ih => unfold compT; rw [List.length_append]; split <;> simp <;> omega
theorem compT_keep {L : List So} {j : Nat} (h : L.getD (j + 1) noSo ≠ L.getD j noSo) : compT L (j + 2) = compT L (j + 1) ++ [L.getD (j + 1) noSo] := by
  show compT L (j + 1) ++ _ = _
  rw [if_pos (.inr h)]
theorem compT_drop {L : List So} {j : Nat} (h : L.getD (j + 1) noSo = L.getD j noSo) : compT L (j + 2) = compT L (j + 1) := by
  show compT L (j + 1) ++ _ = _
  rw [if_neg (by rw [h]; simp), List.append_nil]
theorem fourForm {lo : Nat} {w : World} {g cap n : Nat} {L : List So} (h : OwnSols lo w (.slice (some ⟨g, 0, none⟩) n cap) L) (hn : L.length = n) (a q : Nat) (hk : a + q < n) :
    w.cell? ⟨g, a * 4 + q * 4, none⟩ = some (.int .i64 (L.getD (a + q) noSo).1) ∧ w.cell? ⟨g, a * 4 + q * 4 + 1, none⟩ = some (.int .i64 (L.getD (a + q) noSo).2.1) ∧ w.cell? ⟨g, a * 4 + q * 4 + 2, none⟩ = some (.int .i64 (L.getD (a + q) noSo).2.2.1) ∧ w.cell? ⟨g, a * 4 + q * 4 + 3, none⟩ = some (.int .i64 (L.getD (a + q) noSo).2.2.2) := by
  rw [← Nat.add_mul]
  exact h.fourAt hn (a + q) hk
theorem cut_at {lo : Nat} {w w0 : World} {b n cap : Nat} {K M : List So} (ho : OwnSols lo w (.slice (some ⟨b, 0, none⟩) n cap) K) (hl : K.length = n) (hlo : w0.heap.size ≤ lo) (hL : Later w0 w) (i : Nat) (hi : i < n) (hM : K.take i = M) :
    (∀ ty, (Builtin.clear_ #[51] ty #[.slice (some ⟨b, i * 4, none⟩) (n - i) (cap - i)]).run Try.prog w = .ok (.tuple #[]) (w.setCells b (i * 4) (List.replicate ((n - i) * 4) (.int .i64 0)))) ∧
    OwnSols lo (w.setCells b (i * 4) (List.replicate ((n - i) * 4) (.int .i64 0))) (.slice (some ⟨b, 0, none⟩) i cap) M ∧ Later w0 (w.setCells b (i * 4) (List.replicate ((n - i) * 4) (.int .i64 0))) ∧ n ≤ cap ∧ M.length = i := by
  have ho' : w.ownsRow lo 48 4 (.slice (some ⟨b, 0, none⟩) n cap) n (soCells K) := by have h := ho; unfold OwnSols at h; rw [hl] at h; exact h
  have hcap : n ≤ cap := by
    obtain ⟨_, _, e, hle⟩ := ho.shape
    simp only [Value.slice.injEq] at e
    rw [e.2.2, ← hl]; exact hle
  have hMl : M.length = i := by rw [← hM, List.length_take, hl]; omega
  obtain ⟨ys, hys1, hys2, hys3⟩ := ownsRow_setCells (List.replicate ((n - i) * 4) (Value.int .i64 0)) (i * 4) w (soCells K) ho'
  refine ⟨fun ty => run_clear_so w ty b (i * 4) (n - i) (cap - i) (by omega) (fun t ht => by
    rw [ho'.cellAt (i * 4 + t) (by omega), List.getElem?_eq_getElem (by rw [soCells_len, hl]; omega)]; rfl) (fun t _ => ho'.frozenAt _), ?_, ?_, hcap, hMl⟩
  · refine OwnSols.cut hys1 i (by omega) hMl ?_
    rw [hys2, ← hM]
    have e : soCells K = soCells (K.take i) ++ soCells (K.drop i) := by unfold soCells; rw [← List.flatMap_append, List.take_append_drop]
    rw [e, List.take_append_of_le_length (by rw [soCells_len, List.length_take, hl]; omega), List.take_of_length_le (by rw [soCells_len, List.length_take, hl]; omega)]
  · exact hL.grown hys3 hL.size (fun b' hb' => by have e := Option.some.inj hb'; subst e; exact Nat.le_trans hlo (ho.lt b rfl).1)

end Go.Proofs.Ytjnhhjnfdaaaeab
