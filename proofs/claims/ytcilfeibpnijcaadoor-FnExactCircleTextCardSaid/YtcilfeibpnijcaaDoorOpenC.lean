/- An argument that is a circle, opened. -/
import Derived.Test.YtcilfeibpnijcaaDoorOpen
import Derived.Lib.SmallJoins
namespace Go.Proofs.YtcilfeibpnijcaaDoor
open Go.ChangeShapes Go.WideShapes Go.ChangeAt Go.RowKit Go.Deep Go.Joins
section
variable {H : Type} {enc : TypeId × Value → H} {P : Program} {w : World}
theorem openCi {r : Reach} {b0 : Nat} {t i : TypeId} {f0 f1 f2 f3 : Field} {v : Value} {d : DataW H} {p : List MemPlace} (hs : P.underlying t = some (.struct #[f0, f1, f2, f3])) (hone : oneCellFields P #[f0, f1, f2, f3] = true) (hC : P.cellsOf t = 4)
    (e0 : f0.type = i) (e1 : f1.type = i) (e2 : f2.type = i) (e3 : f3.type = i) (hi : P.underlying i = some (.int .i64))
    (hv : Value.okWide P w r b0 t v) (h : DataW.Trod enc P w 0 (fun _ => true) true t v d p) : ∃ a b x y : Int, v = .agg #[.int .i64 a, .int .i64 b, .int .i64 x, .int .i64 y] := by
  obtain ⟨v0, v1, v2, v3, y0, y1, y2, y3, n, rfl, _, _, h0, h1, h2, h3⟩ := open_agg4 hs hone hC hv h
  rw [e0] at h0
  rw [e1] at h1
  rw [e2] at h2
  rw [e3] at h3
  obtain ⟨a, k0, _, _⟩ := DataW.trod_int hi h0
  obtain ⟨b, k1, _, _⟩ := DataW.trod_int hi h1
  obtain ⟨x, k2, _, _⟩ := DataW.trod_int hi h2
  obtain ⟨y, k3, _, _⟩ := DataW.trod_int hi h3
  simp at k0 k1 k2 k3
  exact ⟨a, b, x, y, by rw [k0, k1, k2, k3]⟩
end
end Go.Proofs.YtcilfeibpnijcaaDoor
