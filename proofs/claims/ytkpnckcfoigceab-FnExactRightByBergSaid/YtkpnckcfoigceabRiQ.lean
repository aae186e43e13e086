/- Right triples in the program: the pair of a list. -/
import Derived.Test.YtkpnckcfoigceabRiR
namespace Go.Proofs.Ytkpnckcfoigceab
open Go.RowKit

def rtR : Option (Int × Int) → Value
  | some p => .tuple #[.agg (rtV p.1 p.2).toArray, .bool true]
  | none => .tuple #[.agg zero5.toArray, .bool false]
theorem root_half {q m : Int} (hm : 0 ≤ m) (hb : m * m ≤ 1000000000) (h : q = 2 * (m * m)) : (rootAns (wrap64 ((wrap64 q).tdiv 2))).getD 0 = m := by
  have h0 : 0 ≤ m * m := Int.mul_nonneg hm hm
  have e1 : wrap64 q = q := IntWalk.wrap64_in _ (by omega)
  have e2 : q.tdiv 2 = m * m := by rw [Int.tdiv_eq_ediv_of_nonneg (by omega)]; omega
  have e3 : wrap64 (m * m) = m * m := IntWalk.wrap64_in _ (by omega)
  rw [e1, e2, e3]
  unfold rootAns
  rw [if_pos (by omega)]
  exact root_sq hm _ rfl
theorem right_by {x y z m n : Int} (hm : (rootAns (wrap64 ((wrap64 (z + x)).tdiv 2))).getD 0 = m) (hn : (rootAns (wrap64 ((wrap64 (z - x)).tdiv 2))).getD 0 = n) :
    rightP [x, y, z] = if pairB m n = true ∧ sidesL m n = [x, y, z] then some (m, n) else none := by
  split
  · rename_i h
    exact right_only (pairB_iff.1 h.1) h.2
  · rename_i h
    cases hr : rightP [x, y, z] with
    | none => rfl
    | some p =>
      obtain ⟨m', n'⟩ := p
      obtain ⟨hp, he⟩ := right_some hr
      exfalso
      apply h
      have hx : x = m' * m' - n' * n' := by unfold sidesL at he; simp only [List.cons.injEq] at he; exact he.1
      have hz : z = m' * m' + n' * n' := by unfold sidesL at he; simp only [List.cons.injEq] at he; exact he.2.2.1
      have := hp.h1
      have := hp.h2
      have := hp.prods
      rw [root_half (show 0 ≤ m' by omega) (by omega) (by omega)] at hm
      rw [root_half (show 0 ≤ n' by omega) (by omega) (by omega)] at hn
      subst hm
      subst hn
      exact ⟨hp.yes, he.symm⟩

end Go.Proofs.Ytkpnckcfoigceab
