/- Equations of Hurwitz: contracts of the model's tests: huGiven, huSquares, huProduct, huGood, IsHurwitz. -/
import Derived.Test.YtoaopmafokoaoabHuHT
import Derived.Test.YtoaopmafokoaoabBasB
namespace Go.Proofs.Ytoaopmafokoaoab
open Go.RowKit

theorem sq_bd {z : Int} (h : 1 ≤ z ∧ z ≤ 100000) : 1 ≤ z * z ∧ z * z ≤ 10000000000 := by
  have h1 := Int.mul_le_mul h.1 h.1 (by omega) (by omega)
  have h2 := Int.mul_le_mul h.2 h.2 (by omega) (by omega)
  omega
theorem getElem_in5 {zs : List Int} (h : In5 zs) (k : Nat) (hk : k < zs.length) : 1 ≤ zs[k] ∧ zs[k] ≤ 100000 := h _ (List.getElem_mem hk)
theorem add_at' (a : Addr) (i : Nat) : a.add (i + 1) = ⟨a.block, a.off + (i + 1), none⟩ := by unfold Addr.add; simp
theorem all_within5 {zs : List Int} (h : zs.all (within 1 100000) = true) : In5 zs := fun z hz => within5.1 (List.all_eq_true.1 h z hz)
/-- so far no number is greater than the one before it -/
def fallTo (zs : List Int) (k : Nat) : Prop := ∀ i, i + 1 < k → zs.getD (i + 1) 0 ≤ zs.getD i 0
theorem fallTo_dn : ∀ (zs : List Int), (∀ i, i + 1 < zs.length → zs.getD (i + 1) 0 ≤ zs.getD i 0) → Dn zs := by
  intro zs
  induction zs with
  | nil => intro _; exact List.Pairwise.nil
  | cons z zs ih =>
    intro h
    have h1 : Dn zs := ih fun i hi => by
      have := h (i + 1) (by simpa using hi)
      simpa using this
    refine List.pairwise_cons.2 ⟨?_, h1⟩
    cases zs with
    | nil => intro y hy; simp at hy
    | cons x xs =>
      have h2 : x ≤ z := by simpa using h 0 (by simp)
      intro y hy
      rcases List.mem_cons.1 hy with rfl | hy
      · exact h2
      · have := (List.pairwise_cons.1 h1).1 y hy; omega
theorem fallB_of {zs : List Int} (h5 : In5 zs) (h : fallTo zs zs.length) : fallB 100000 zs = true :=
  (fallB_iff (by omega)).2 ⟨fallTo_dn zs h, h5⟩
theorem fallB_no {zs : List Int} (k : Nat) (h1 : 1 ≤ k) (hk : k < zs.length) (h : zs.getD (k - 1) 0 < zs.getD k 0) : fallB 100000 zs = false := by
  cases hf : fallB 100000 zs
  · rfl
  · have h2 := ((fallB_iff (by omega)).1 hf).1
    have h3 := List.pairwise_iff_getElem.1 h2 (k - 1) k (by omega) hk (by omega)
    have e1 : zs.getD (k - 1) 0 = zs[k - 1] := by simp [show k - 1 < zs.length by omega]
    have e2 : zs.getD k 0 = zs[k] := by simp [hk]
    omega
def isHuAns (zs : List Int) (a b : Int) : Option Bool := if givenB a b = true then some (solB zs a b) else none
end Go.Proofs.Ytoaopmafokoaoab
