/- Four curvatures: FollowSwaps, SwapAt, ScaleOf (the model). -/
import Derived.Test.YtoaopmafokoaoaaQdTUV
import Derived.Test.YtoaopmafokoaoaaQdGR
import Derived.Deep.DeepCutAuto
namespace Go.Proofs.Ytoaopmafokoaoaa
open Go.RowKit

theorem follow_drop (zs word : List Int) (k : Nat) (hk : k < word.length) : followL zs (word.drop k) = if swN zs (word.getD k 0).toNat ≤ 100000 then followL (swL zs (word.getD k 0).toNat) (word.drop (k + 1)) else none := by
  rw [List.drop_eq_getElem_cons hk, followL, getD_at word k hk]
theorem word_at {word : List Int} (h : word.all (within 0 3) = true) (k : Nat) (hk : k < word.length) : 0 ≤ word.getD k 0 ∧ word.getD k 0 ≤ 3 := by
  rw [getD_at word k hk]
  exact within03.1 (List.all_eq_true.1 h _ (List.getElem_mem hk))
theorem follow_len : ∀ (word zs : List Int), zs.length = 4 → ∀ r, followL zs word = some r → r.length = 4 := by
  intro word
  induction word with
  | nil => intro zs h r hr; simp [followL] at hr; subst hr; exact h
  | cons i is ih =>
    intro zs h r hr
    unfold followL at hr
    split at hr
    · exact ih _ (by rw [swL_len]; exact h) r hr
    · cases hr
theorem followAns_one (zs : List Int) (i : Int) : followAns zs [i] = swapAns zs i := by
  unfold followAns swapAns
  by_cases h1 : apB zs = true ∧ within 0 3 i = true
  · obtain ⟨h1, h2⟩ := h1
    rw [if_pos ⟨h1, by simp, by simp [h2]⟩]
    by_cases h3 : swN zs i.toNat ≤ 100000
    · rw [if_pos ⟨h1, h2, h3⟩, followL, if_pos h3, followL]
    · rw [if_neg (fun h => h3 h.2.2), followL, if_neg h3]
  · rw [if_neg (fun h => h1 ⟨h.1, by simpa using h.2.2⟩), if_neg (fun h => h1 ⟨h.1, h.2.1⟩)]
end Go.Proofs.Ytoaopmafokoaoaa
