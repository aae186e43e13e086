/- QdT, QdU, QdV: in one text. -/
import Derived.Test.YtoaopmafokoaoaaQdS
import Derived.Test.YtoaopmafokoaoaaHuUVW
namespace Go.Proofs.Ytoaopmafokoaoaa
open Go.RowKit


theorem Md.getD {a b c d : Int} (h : Md a b c d) (i : Nat) (hi : i < 4) : -10000000 ≤ [a, b, c, d].getD i 0 ∧ [a, b, c, d].getD i 0 ≤ 10000000 := by
  obtain ⟨a1, a2, b1, b2, c1, c2, d1, d2⟩ := h
  have h4 : i = 0 ∨ i = 1 ∨ i = 2 ∨ i = 3 := by omega
  rcases h4 with rfl | rfl | rfl | rfl <;> simp <;> omega
theorem MadeInts.cells {w : World} {zs : List Int} {e : Ending} {w' : World} (h : MadeInts w zs e w') (i : Nat) (hi : i < zs.length) :
    ∃ g c, e = .returned (.slice (some ⟨g, 0, none⟩) zs.length c) ∧ w'.cell? ⟨g, i, none⟩ = some (.int .i64 (zs.getD i 0)) ∧ Later w w' := by
  obtain ⟨v, rfl, ho, hL⟩ := h
  obtain ⟨a, c, rfl, _, _, _, hcs⟩ := ownsRow_shape ho.1
  obtain ⟨g, rfl, hc⟩ := hcs i hi
  refine ⟨g, c, rfl, ?_, hL⟩
  rw [hc]; simp [hi]
theorem swL_at (zs : List Int) (i : Nat) (hi : i < zs.length) : (swL zs i).getD i 0 = swN zs i := by simp [swL, hi]
theorem swN_md {a b c d : Int} (h : Md a b c d) (i : Nat) (hi : i < 4) : -200000000 ≤ swN [a, b, c, d] i ∧ swN [a, b, c, d] i ≤ 200000000 := by
  obtain ⟨a1, a2, b1, b2, c1, c2, d1, d2⟩ := h
  obtain ⟨e0, e1, e2, e3⟩ := swN4 a b c d
  have h4 : i = 0 ∨ i = 1 ∨ i = 2 ∨ i = 3 := by omega
  rcases h4 with rfl | rfl | rfl | rfl
  · rw [e0]; omega
  · rw [e1]; omega
  · rw [e2]; omega
  · rw [e3]; omega
theorem QD.md {a b c d : Int} (h : QD a b c d) : Md a b c d := by
  obtain ⟨⟨a1, a2⟩, ⟨b1, b2⟩, ⟨c1, c2⟩, ⟨d1, d2⟩, _, _⟩ := h
  exact ⟨by omega, by omega, by omega, by omega, by omega, by omega, by omega, by omega⟩
theorem within03 {i : Int} : within 0 3 i = true ↔ 0 ≤ i ∧ i ≤ 3 := by simp [within]
theorem downIx_last {zs : List Int} (h : lastQ zs = true) : downIx zs = -1 := by unfold downIx; rw [if_pos h]
theorem downIx_next {zs : List Int} (h : lastQ zs = false) : downIx zs = (gIx zs : Int) := by unfold downIx; rw [h]; simp
end Go.Proofs.Ytoaopmafokoaoaa
