/- An argument that is a slice of matrices, opened. -/
import Derived.Test.YtkpnckcfoigceaaOpen
import Derived.Test.YtkpnckcfoigceaaWmI
import Derived.Deep.Slices
namespace Go.Proofs.Ytkpnckcfoigceaa
open Go.ChangeShapes Go.WideShapes Go.ChangeAt Go.RowKit Go.Deep
section
variable {H : Type} {enc : TypeId × Value → H} {P : Program} {w : World}
theorem openMats {r : Reach} {b0 : Nat} {t s e q i : TypeId} {f0 : Field} {v : Value} {d : DataW H} {p : List MemPlace} (ht : P.underlying t = some (.slice s)) (hs : P.underlying s = some (.struct #[f0])) (hone : oneCellFields P #[f0] = true) (hC : P.cellsOf s = 1) (hft : f0.type = e)
    (he : P.underlying e = some (.slice q)) (hq : P.underlying q = some (.slice i)) (hi : P.underlying i = some (.int .i64)) (cq : P.cellsOf q = 1) (ci : P.cellsOf i = 1)
    (hv : Value.okWide P w r b0 t v) (h : DataW.Trod enc P w 0 (fun _ => true) true t v d p) : ∃ Z, MatsR w v Z := by
  obtain ⟨a, l, c, rfl⟩ := okWide_slice ht hv
  obtain ⟨n, hf⟩ := h
  rcases open_slice1 ht hC hf with ⟨hcs, _⟩ | ⟨a', len, cap, m, n', V, D, Pl, hcs, hb, hl, hm, hmm, hxx, hx⟩
  · simp [Value.cells] at hcs
    obtain ⟨rfl, rfl, rfl⟩ := hcs
    exact ⟨[], none, 0, rfl, by decide, fun i hi => absurd hi (Nat.not_lt_zero i)⟩
  · simp [Value.cells] at hcs
    obtain ⟨rfl, rfl, rfl⟩ := hcs
    simp only [if_true] at hmm
    subst hmm
    have each : ∀ r, r < l → ∃ z, Rows2 w (V r) z := by
      intro r hr
      obtain ⟨y0, n2, _, _, h0⟩ := trod_struct1 hs (hx r (by omega)).2
      obtain ⟨o0, k0⟩ := hone_of hone 0 f0 rfl
      have h1 : DataW.trod enc P w 0 (fun _ => true) true n2 f0.type [V r] = some y0 := by simpa [Value.cells, o0, k0] using h0
      rw [hft] at h1
      obtain ⟨v', zss, hcs, hi, _⟩ := openRowsCells he hq hi cq ci h1
      simp at hcs
      subst hcs
      exact ⟨zss, hi⟩
    obtain ⟨z, hz⟩ := choose_lt each
    refine ⟨(List.range l).map z, some a', m, by simp, by simp; unfold maxLen at hm; omega, fun i hi => ?_⟩
    simp only [List.length_map, List.length_range] at hi
    refine ⟨a', V i, rfl, (hx i (by omega)).1, ?_⟩
    rw [show ((List.range l).map z).getD i [] = z i by simp [hi]]
    exact hz i hi
end
end Go.Proofs.Ytkpnckcfoigceaa
