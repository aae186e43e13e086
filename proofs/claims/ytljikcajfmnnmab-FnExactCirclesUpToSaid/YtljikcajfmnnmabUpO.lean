/- OpenC, OpenD: in one text. -/
import Derived.Test.YtljikcajfmnnmabOpen
import Derived.Lib.SmallJoins
import Derived.Test.YtljikcajfmnnmabCiA
import Derived.Deep.Slices
namespace Go.Proofs.Ytljikcajfmnnmab
open Go.RowKit

open Go.ChangeShapes Go.WideShapes Go.ChangeAt Go.RowKit Go.Deep Go.Joins
section
variable {H : Type} {enc : TypeId × Value → H} {P : Program} {w : World}
theorem openCi {r : Reach} {b0 : Nat} {t i : TypeId} {f0 f1 f2 f3 : Field} {v : Value} {d : DataW H} {p : List MemPlace} (hs : P.underlying t = some (.struct #[f0, f1, f2, f3])) (hone : oneCellFields P #[f0, f1, f2, f3] = true) (hC : P.cellsOf t = 4)
    (e0 : f0.type = i) (e1 : f1.type = i) (e2 : f2.type = i) (e3 : f3.type = i) (hi : P.underlying i = some (.int .i64))
    (hv : Value.okWide P w r b0 t v) (h : DataW.Trod enc P w 0 (fun _ => true) true t v d p) : ∃ a b x y : Int, v = .agg #[.int .i64 a, .int .i64 b, .int .i64 x, .int .i64 y] := by
  obtain ⟨v0, v1, v2, v3, y0, y1, y2, y3, n, rfl, _, _, h0, h1, h2, h3⟩ := open_agg4 hs hone hC hv h
  rw [e0] at h0
  rw [e1] at h1
  rw [e2] at h2
  rw [e3] at h3
  obtain ⟨a, k0, _, _⟩ := DataW.trod_int hi h0
  obtain ⟨b, k1, _, _⟩ := DataW.trod_int hi h1
  obtain ⟨x, k2, _, _⟩ := DataW.trod_int hi h2
  obtain ⟨y, k3, _, _⟩ := DataW.trod_int hi h3
  simp at k0 k1 k2 k3
  exact ⟨a, b, x, y, by rw [k0, k1, k2, k3]⟩
end

open Go.ChangeShapes Go.WideShapes Go.ChangeAt Go.RowKit Go.Deep Go.Joins
section
variable {H : Type} {enc : TypeId × Value → H} {P : Program} {w : World}
theorem openCis {r : Reach} {b0 : Nat} {t s i : TypeId} {f0 f1 f2 f3 : Field} {v : Value} {d : DataW H} {p : List MemPlace} (ht : P.underlying t = some (.slice s)) (hs : P.underlying s = some (.struct #[f0, f1, f2, f3])) (hone : oneCellFields P #[f0, f1, f2, f3] = true) (hC : P.cellsOf s = 4)
    (e0 : f0.type = i) (e1 : f1.type = i) (e2 : f2.type = i) (e3 : f3.type = i) (hi : P.underlying i = some (.int .i64))
    (hv : Value.okWide P w r b0 t v) (h : DataW.Trod enc P w 0 (fun _ => true) true t v d p) : ∃ Z, CisA w v Z := by
  obtain ⟨a, l, c, rfl⟩ := okWide_slice ht hv
  obtain ⟨n, hf⟩ := h
  rcases open_slice ht hf with ⟨hcs, _⟩ | ⟨a', len, cap, m, n', D, Pl, hcs, hb, hl, hm, hmm, hxx, hx⟩
  · simp [Value.cells] at hcs
    obtain ⟨rfl, rfl, rfl⟩ := hcs
    exact ⟨[], none, 0, rfl, by decide, fun i hi => absurd hi (Nat.not_lt_zero i)⟩
  · simp [Value.cells] at hcs
    obtain ⟨rfl, rfl, rfl⟩ := hcs
    simp only [if_true] at hmm
    subst hmm
    have each : ∀ r, r < l → ∃ z : Ci4, w.cell? (a'.add (r * 4)) = some (.int .i64 z.1) ∧ w.cell? (a'.add (r * 4 + 1)) = some (.int .i64 z.2.1) ∧ w.cell? (a'.add (r * 4 + 2)) = some (.int .i64 z.2.2.1) ∧ w.cell? (a'.add (r * 4 + 3)) = some (.int .i64 z.2.2.2) := by
      intro r hr
      obtain ⟨cs', h1, h2⟩ := hx r (by omega)
      rw [hC] at h1
      obtain ⟨_, hl4, hget⟩ := World.cells?_some h1
      obtain ⟨v0, v1, v2, v3, rfl⟩ : ∃ v0 v1 v2 v3, cs' = [v0, v1, v2, v3] := by
        match cs', hl4 with
        | [v0, v1, v2, v3], _ => exact ⟨v0, v1, v2, v3, rfl⟩
      obtain ⟨y0, y1, y2, y3, n2, _, _, h0, h1', h2', h3⟩ := trod_struct4 hs h2
      obtain ⟨o0, k0⟩ := hone_of hone 0 f0 rfl
      obtain ⟨o1, k1⟩ := hone_of hone 1 f1 rfl
      obtain ⟨o2, k2⟩ := hone_of hone 2 f2 rfl
      obtain ⟨o3, k3⟩ := hone_of hone 3 f3 rfl
      have g0 : DataW.trod enc P w 0 (fun _ => true) true n2 f0.type [v0] = some y0 := by simpa [o0, k0] using h0
      have g1 : DataW.trod enc P w 0 (fun _ => true) true n2 f1.type [v1] = some y1 := by simpa [o1, k1] using h1'
      have g2 : DataW.trod enc P w 0 (fun _ => true) true n2 f2.type [v2] = some y2 := by simpa [o2, k2] using h2'
      have g3 : DataW.trod enc P w 0 (fun _ => true) true n2 f3.type [v3] = some y3 := by simpa [o3, k3] using h3
      rw [e0] at g0
      rw [e1] at g1
      rw [e2] at g2
      rw [e3] at g3
      obtain ⟨z0, q0, _, _⟩ := DataW.trod_int hi g0
      obtain ⟨z1, q1, _, _⟩ := DataW.trod_int hi g1
      obtain ⟨z2, q2, _, _⟩ := DataW.trod_int hi g2
      obtain ⟨z3, q3, _, _⟩ := DataW.trod_int hi g3
      simp at q0 q1 q2 q3
      have a0 := hget 0 (by omega)
      have a1 := hget 1 (by omega)
      have a2 := hget 2 (by omega)
      have a3 := hget 3 (by omega)
      rw [add_add] at a0 a1 a2 a3
      exact ⟨(z0, z1, z2, z3), by rw [← q0]; exact a0, by rw [← q1]; exact a1, by rw [← q2]; exact a2, by rw [← q3]; exact a3⟩
    obtain ⟨z, hz⟩ := choose_lt each
    have hlen : ((List.range l).map z).length = l := by simp
    refine ⟨(List.range l).map z, some a', m, by rw [hlen], by rw [hlen]; unfold maxLen at hm; omega, fun i hi => ?_⟩
    rw [hlen] at hi
    rw [show ((List.range l).map z).getD i c00 = z i by simp [hi]]
    exact ⟨a', rfl, hz i hi⟩
end
end Go.Proofs.Ytljikcajfmnnmab
