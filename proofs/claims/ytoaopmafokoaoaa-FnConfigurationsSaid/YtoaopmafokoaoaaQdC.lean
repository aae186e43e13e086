/- Four curvatures: the swap down, roots (the program). -/
import Derived.Test.YtoaopmafokoaoaaQdAB
import Derived.Laws.StructEq
import Derived.ChangeKeysEq
namespace Go.Proofs.Ytoaopmafokoaoaa
open Go.RowKit

/-- behind the swap down; a root as it is -/
def lowQ (zs : List Int) : List Int := if lastQ zs = true then zs else nextQ zs
theorem lowQ_last {zs : List Int} (h : lastQ zs = true) : lowQ zs = zs := if_pos h
theorem lowQ_next {zs : List Int} (h : lastQ zs = false) : lowQ zs = nextQ zs := if_neg (by rw [h]; simp)
/-- the numbers behind a swap bear sums, too -/
theorem QD.md2 {a b c d : Int} (h : QD a b c d) {p q r s : Int} (he : swL [a, b, c, d] (gIx [a, b, c, d]) = [p, q, r, s]) : Md p q r s := by
  have hg := gIx_lt ((apB_iff a b c d).2 h)
  have hb := swN_bd ((apB_iff a b c d).2 h) _ hg
  obtain ⟨⟨a1, a2⟩, ⟨b1, b2⟩, ⟨c1, c2⟩, ⟨d1, d2⟩, _, _⟩ := h
  generalize gIx [a, b, c, d] = g at *
  generalize hn : swN [a, b, c, d] g = n at *
  have e : swL [a, b, c, d] g = [a, b, c, d].set g n := by unfold swL; rw [hn]
  rw [e] at he
  have h4 : g = 0 ∨ g = 1 ∨ g = 2 ∨ g = 3 := by omega
  rcases h4 with rfl | rfl | rfl | rfl <;> simp at he <;> obtain ⟨rfl, rfl, rfl, rfl⟩ := he <;> exact ⟨by omega, by omega, by omega, by omega, by omega, by omega, by omega, by omega⟩
end Go.Proofs.Ytoaopmafokoaoaa
