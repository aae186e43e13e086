/- Four curvatures: IsQuad, SwapAt, IsRoot, DownSwap (the model). -/
import Derived.Test.YtofmmegpadojlabQdU
namespace Go.Proofs.Ytofmmegpadojlab
open Go.RowKit

theorem QD.md {a b c d : Int} (h : QD a b c d) : Md a b c d := by
  obtain ⟨⟨a1, a2⟩, ⟨b1, b2⟩, ⟨c1, c2⟩, ⟨d1, d2⟩, _, _⟩ := h
  exact ⟨by omega, by omega, by omega, by omega, by omega, by omega, by omega, by omega⟩
theorem within03 {i : Int} : within 0 3 i = true ↔ 0 ≤ i ∧ i ≤ 3 := by simp [within]
theorem downIx_last {zs : List Int} (h : lastQ zs = true) : downIx zs = -1 := by unfold downIx; rw [if_pos h]
theorem downIx_next {zs : List Int} (h : lastQ zs = false) : downIx zs = (gIx zs : Int) := by unfold downIx; rw [h]; simp
theorem apSwap_zs (v : Value) (zs : List Int) (i : Nat) (w : World) (hi : i < 4) (hg : apB zs = true) (h : Ints w v zs) :
    Calls Try.prog 109 #[v, .int .i64 i] w fun e w' => MadeInts w (swL zs i) e w' := by
  obtain ⟨a, b, c, d, rfl, hq⟩ := apB_four hg
  exact apSwap_any v a b c d i w hi hq.md h
end Go.Proofs.Ytofmmegpadojlab
