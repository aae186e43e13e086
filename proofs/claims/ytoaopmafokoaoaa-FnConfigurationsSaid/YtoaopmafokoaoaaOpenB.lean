/- Arguments opened: a slice of bytes. -/
import Derived.Test.YtoaopmafokoaoaaOpen
import Derived.Test.YtoaopmafokoaoaaCuAB
namespace Go.Proofs.Ytoaopmafokoaoaa
open Go.ChangeShapes Go.WideShapes Go.ChangeAt Go.RowKit Go.Deep

theorem u8_of_wf {z : Int} (h : (Lit.int .u8 z).wf = true) : 0 ≤ z ∧ z ≤ 255 := by
  simp [Lit.wf, IntKind.min, IntKind.max, IntKind.signed, IntKind.bits] at h
  exact ⟨by omega, by omega⟩
section ob
variable {H : Type} {enc : TypeId × Value → H} {P : Program} {w : World}
theorem openBytesCells {t e : TypeId} {n : Nat} {cs : List Value} {x : DataW H × List MemPlace} (ht : P.underlying t = some (.slice e)) (he : P.underlying e = some (.int .u8)) (hc : P.cellsOf e = 1)
    (h : DataW.trod enc P w 0 (fun _ => true) true n t cs = some x) : ∃ v zs, cs = [v] ∧ BytesR w v zs := by
  rcases open_ints ht he hc h with ⟨hcs, _⟩ | ⟨a, len, cap, zs, hcs, _, hl, hm, hz, _, hcell, hwz⟩
  · exact ⟨_, [], hcs, none, 0, rfl, by simp, fun i hi => by simp at hi⟩
  · simp only [if_true] at hz
    have hlen : (zs.take len).length = len := by simp; omega
    refine ⟨_, zs.take len, hcs, some a, cap, by rw [hlen], by unfold maxLen at hm; omega, fun i hi => ⟨a, rfl, ?_, ?_⟩⟩
    · rw [getD_take zs i len (by omega)]
      exact hcell i (by omega)
    · have hm : (zs.take len).getD i 0 ∈ zs := by
        rw [getD_take zs i len (by omega), getD_at zs i (by omega)]
        exact List.getElem_mem _
      exact u8_of_wf (hwz _ hm)
theorem openBytes {t e : TypeId} {v : Value} {d : DataW H} {ps : List MemPlace} (ht : P.underlying t = some (.slice e)) (he : P.underlying e = some (.int .u8)) (hc : P.cellsOf e = 1)
    {r : Reach} {b0 : Nat} (hv : Value.okWide P w r b0 t v) (h : DataW.Trod enc P w 0 (fun _ => true) true t v d ps) : ∃ zs, BytesR w v zs := by
  obtain ⟨a, l, c, rfl⟩ := okWide_slice ht hv
  obtain ⟨n, hf⟩ := h
  obtain ⟨v', zs, hcs, hi⟩ := openBytesCells ht he hc hf
  simp [Value.cells] at hcs
  subst hcs
  exact ⟨zs, hi⟩
end ob
end Go.Proofs.Ytoaopmafokoaoaa
