/- Equations of Hurwitz: the word up (the model). -/
import Derived.Test.YtoaopmafokoaoaaHuDn
import Derived.Test.YtoaopmafokoaoaaHuHT
import Derived.Test.YtoaopmafokoaoaaSqTr
namespace Go.Proofs.Ytoaopmafokoaoaa
open Go.RowKit

theorem OwnRows.atH {lo hi : Nat} {w : World} {g n cg : Nat} {L : List (List Int)} (h : OwnRows lo hi w (.slice (some ⟨g, 0, none⟩) n cg) L) (k : Nat) (hk : k < L.length) :
    ∃ a c, w.cell? ⟨g, k, none⟩ = some (.slice a (L.getD k []).length c) ∧ OwnInts lo hi w (.slice a (L.getD k []).length c) (L.getD k []) := by
  obtain ⟨us, hul, hus, _, hin, _⟩ := h.partsH
  have hk2 := hin k hk
  obtain ⟨a, c, e, _⟩ := hk2.shape
  obtain rfl : n = us.length := by
    rcases hus.2 with ⟨e, _⟩ | ⟨_, _, _, e, _⟩
    · simp at e
    · simp only [Value.slice.injEq] at e; exact e.2.1
  have hc : w.cell? ⟨g, k, none⟩ = us[k]? := hus.cellAt k (by omega)
  refine ⟨a, c, ?_, by rw [← e]; exact hk2⟩
  rw [← e, hc, List.getD_eq_getElem?_getD, List.getElem?_eq_getElem (by omega)]; rfl
theorem OwnInts.pushedH {lo : Nat} {w1 : World} {v' : Value} {L : List Int} {x : Int} (ho1 : w1.ownsRow lo 3 1 v' (L.length + 1) (L.map (Value.int .i64) ++ [.int .i64 x])) : OwnInts lo w1.heap.size w1 v' (L ++ [x]) :=
  ⟨by simpa using ho1, fun b hb => (ho1.lt b hb).2⟩
theorem eqL_iff {xs ys : List Int} : eqL xs ys = true ↔ xs = ys := by
  unfold eqL; simp

end Go.Proofs.Ytoaopmafokoaoaa
