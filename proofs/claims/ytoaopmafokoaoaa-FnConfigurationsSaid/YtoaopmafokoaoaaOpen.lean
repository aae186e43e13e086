/- Arguments opened: what a law's arguments, read as data, are in memory. -/
import Derived.Test.YtoaopmafokoaoaaBasA
import Derived.ProofKit
import Derived.Deep.Matrix
import Derived.Deep.Fields
namespace Go.Proofs.Ytoaopmafokoaoaa
open Go.ChangeShapes Go.WideShapes Go.ChangeAt Go.RowKit Go.Deep

theorem I64.of_wf {z : Int} (h : (Lit.int .i64 z).wf = true) : I64 z := by
  simp [Lit.wf, IntKind.min, IntKind.max, IntKind.signed, IntKind.bits] at h
  exact ⟨by omega, by omega⟩
section
variable {H : Type} {enc : TypeId × Value → H} {P : Program} {w : World}

theorem getD_take (zs : List Int) (i n : Nat) (h : i < n) : (zs.take n).getD i 0 = zs.getD i 0 := by
  simp [h]

theorem openIntsCells {t e : TypeId} {n : Nat} {cs : List Value} {x : DataW H × List MemPlace} (ht : P.underlying t = some (.slice e)) (he : P.underlying e = some (.int .i64)) (hc : P.cellsOf e = 1)
    (h : DataW.trod enc P w 0 (fun _ => true) true n t cs = some x) : ∃ v zs, cs = [v] ∧ Ints w v zs ∧ Fit1 zs := by
  rcases open_ints ht he hc h with ⟨hcs, _⟩ | ⟨a, len, cap, zs, hcs, _, hl, hm, hz, _, hcell, hwz⟩
  · exact ⟨_, [], hcs, Ints.nil w 0, fun z hz => by simp at hz⟩
  · simp only [if_true] at hz
    have hlen : (zs.take len).length = len := by simp; omega
    refine ⟨_, zs.take len, hcs, ⟨some a, cap, by rw [hlen], by unfold maxLen at hm; omega, fun i hi => ⟨a, rfl, ?_⟩⟩, fun z hz' => I64.of_wf (hwz z (List.mem_of_mem_take hz'))⟩
    rw [getD_take zs i len (by omega)]
    exact hcell i (by omega)

theorem openInts {t e : TypeId} {v : Value} {d : DataW H} {ps : List MemPlace} (ht : P.underlying t = some (.slice e)) (he : P.underlying e = some (.int .i64)) (hc : P.cellsOf e = 1)
    {r : Reach} {b0 : Nat} (hv : Value.okWide P w r b0 t v) (h : DataW.Trod enc P w 0 (fun _ => true) true t v d ps) : ∃ zs, Ints w v zs ∧ Fit1 zs := by
  obtain ⟨a, l, c, rfl⟩ := okWide_slice ht hv
  obtain ⟨n, hf⟩ := h
  obtain ⟨v', zs, hcs, hi, hw⟩ := openIntsCells ht he hc hf
  simp [Value.cells] at hcs
  subst hcs
  exact ⟨zs, hi, hw⟩

theorem openRowsCells {t e q : TypeId} {n : Nat} {cs : List Value} {x : DataW H × List MemPlace} (ht : P.underlying t = some (.slice e)) (he : P.underlying e = some (.slice q)) (hq : P.underlying q = some (.int .i64))
    (ce : P.cellsOf e = 1) (cq : P.cellsOf q = 1) (h : DataW.trod enc P w 0 (fun _ => true) true n t cs = some x) : ∃ v zss, cs = [v] ∧ Rows2 w v zss ∧ Fit2 zss := by
  rcases open_int_rows ht he hq ce cq h with ⟨hcs, _⟩ | ⟨a, len, cap, A, L, C, Z, hcs, _, hl, hm, _, hr⟩
  · exact ⟨_, [], hcs, Rows2.nil w 0, fun z hz => by simp at hz⟩
  · have hlen : ((List.range len).map fun r => (Z r).take (L r)).length = len := by simp
    refine ⟨_, (List.range len).map fun r => (Z r).take (L r), hcs, ⟨some a, cap, by rw [hlen], by unfold maxLen at hm; omega, fun i hi => ?_⟩, fun zs hz' z hz => ?_⟩
    · rw [hlen] at hi
      obtain ⟨hcell, h1, h2, h3, h4, h5, h6⟩ := hr i (by omega)
      refine ⟨a, _, rfl, hcell, ?_⟩
      rw [show ((List.range len).map fun r => (Z r).take (L r)).getD i [] = (Z i).take (L i) by simp [hi]]
      have hl2 : ((Z i).take (L i)).length = L i := by simp; omega
      refine ⟨A i, C i, by rw [hl2], by rw [hl2]; unfold maxLen at h2; omega, fun j hj => ?_⟩
      rw [hl2] at hj
      cases hA : A i with
      | none => have := h5 hA; omega
      | some a' =>
        refine ⟨a', rfl, ?_⟩
        rw [getD_take _ j (L i) hj]
        exact (h6 a' hA).2 j (by omega)
    · obtain ⟨r, hr', rfl⟩ := List.mem_map.1 hz'
      have := List.mem_range.1 hr'
      exact I64.of_wf ((hr r (by omega)).2.2.2.2.1 z (List.mem_of_mem_take hz))

theorem openAgg1 {r : Reach} {b0 : Nat} {t : TypeId} {f0 : Field} {v : Value} {d : DataW H} {p : List MemPlace} (hs : P.underlying t = some (.struct #[f0])) (hone : oneCellFields P #[f0] = true) (hC : P.cellsOf t = 1)
    (hv : Value.okWide P w r b0 t v) (h : DataW.Trod enc P w 0 (fun _ => true) true t v d p) :
    ∃ (v0 : Value) (y0 : DataW H × List MemPlace) (n : Nat), v = .agg #[v0] ∧ DataW.trod enc P w 0 (fun _ => true) true n f0.type [v0] = some y0 := by
  obtain ⟨cs, rfl, hsz⟩ := okWide_struct hs hv
  obtain ⟨c0, rfl⟩ : ∃ c0, cs = #[c0] := by
    obtain ⟨l⟩ := cs
    match l, hsz.trans hC with
    | [c0], _ => exact ⟨c0, rfl⟩
  obtain ⟨fuel, hf⟩ := h
  obtain ⟨y0, n, hx, _, h0⟩ := trod_struct1 hs hf
  obtain ⟨o0, k0⟩ := hone_of hone 0 f0 rfl
  exact ⟨c0, y0, n, rfl, by simpa [Value.cells, o0, k0] using h0⟩

/-- A struct with one field of rows of ints (a matrix). -/
theorem openMat {r : Reach} {b0 : Nat} {t e q i : TypeId} {f0 : Field} {v : Value} {d : DataW H} {p : List MemPlace} (hs : P.underlying t = some (.struct #[f0])) (hone : oneCellFields P #[f0] = true) (hC : P.cellsOf t = 1) (hft : f0.type = e)
    (ht : P.underlying e = some (.slice q)) (he : P.underlying q = some (.slice i)) (hq : P.underlying i = some (.int .i64)) (ce : P.cellsOf q = 1) (cq : P.cellsOf i = 1)
    (hv : Value.okWide P w r b0 t v) (h : DataW.Trod enc P w 0 (fun _ => true) true t v d p) : ∃ u zss, v = .agg #[u] ∧ Rows2 w u zss ∧ Fit2 zss := by
  obtain ⟨v0, y0, n, rfl, h0⟩ := openAgg1 hs hone hC hv h
  rw [hft] at h0
  obtain ⟨v', zss, hcs, hi, hw⟩ := openRowsCells ht he hq ce cq h0
  simp at hcs
  subst hcs
  exact ⟨_, zss, rfl, hi, hw⟩
end
end Go.Proofs.Ytoaopmafokoaoaa
