/- An argument that is a desk, opened: two slices of numbers. -/
import Derived.Test.YtofmmegpadojlabOpen
import Derived.Lib.SmallJoins
namespace Go.Proofs.Ytofmmegpadojlab
open Go.ChangeShapes Go.WideShapes Go.ChangeAt Go.RowKit Go.Deep Go.Joins
section
variable {H : Type} {enc : TypeId × Value → H} {P : Program} {w : World}
theorem openDesk {r : Reach} {b0 : Nat} {t e i : TypeId} {f0 f1 : Field} {v : Value} {d : DataW H} {p : List MemPlace} (hs : P.underlying t = some (.struct #[f0, f1])) (hone : oneCellFields P #[f0, f1] = true) (hC : P.cellsOf t = 2)
    (e0 : f0.type = e) (e1 : f1.type = e) (ht : P.underlying e = some (.slice i)) (hi : P.underlying i = some (.int .i64)) (ci : P.cellsOf i = 1)
    (hv : Value.okWide P w r b0 t v) (h : DataW.Trod enc P w 0 (fun _ => true) true t v d p) : ∃ u v2 zs qs, v = .agg #[u, v2] ∧ Ints w u zs ∧ Ints w v2 qs := by
  obtain ⟨v0, v1, y0, y1, n, rfl, _, _, h0, h1⟩ := open_agg2 hs hone hC hv h
  rw [e0] at h0
  rw [e1] at h1
  obtain ⟨u, zs, k0, hz, _⟩ := openIntsCells ht hi ci h0
  obtain ⟨u2, qs, k1, hq, _⟩ := openIntsCells ht hi ci h1
  simp at k0 k1
  subst k0
  subst k1
  exact ⟨_, _, zs, qs, rfl, hz, hq⟩
end
end Go.Proofs.Ytofmmegpadojlab
