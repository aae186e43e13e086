/- What is drawn for trees of solutions, and what a tree is. -/
import Derived.Test.YtoaopmafokoaoaaCuHx
import Derived.Test.YtoaopmafokoaoaaHuTij
import Derived.Test.YtoaopmafokoaoaaVhG
namespace Go.Proofs.Ytoaopmafokoaoaa
open Go.RowKit

theorem treeAns_one {zs : List Int} {a b most : Int} {o p : Option (List (List Int))} (h : TreeAns zs a b most o) (k : TreeAns zs a b most p) : o = p := by
  unfold TreeAns at h k
  split at h
  · rename_i ht
    rw [if_pos ht] at k
    exact treeRes_one h k
  · rename_i ht
    rw [if_neg ht] at k
    rw [h, k]
set_option maxRecDepth 20000 in
set_option maxHeartbeats 4000000 in
theorem drawTreeUpTo_any (v : Value) (bs : List Int) (w : World) (h : BytesR w v bs) :
    Calls Try.prog 7 #[v] w fun e w' => ListThreeG w e w' := by
  have HC := hid (fun ty => Cur.newG w v bs h ty)
  obtain ⟨a, cap, rfl, _⟩ := id h
  clear h
  go_enter Try.func7, Try.ntmps7
  go_wp2_with fail
  refine (curHurwitz_any w _ w.heap.size _ bs 0 (by omega) (HC.out _)).mono ?_
  rintro e w1 ⟨u, zs, α, β, rfl, ho, hl, hC⟩
  have HO := hid ho
  have HC1 := hid hC
  clear ho hC HC
  go_wp2_with fail
  refine (curPick_any w w1 w.heap.size _ bs _ 3000 (by omega) (by omega) HC1.out).mono ?_
  rintro e w2 ⟨x, rfl, x0, x1, hC, hG⟩
  have HC2 := hid hC
  have HO2 := hid (HO.out.keepG (Nat.lt_succ_self _) hG)
  clear hC hG HO HC1
  go_wp2_with fail
  refine (curOneG_any w w2 w.heap.size _ bs _ 8 (by omega) (by omega) HC2.out).mono ?_
  rintro e w3 ⟨b, rfl, hC, hG⟩
  have HC3 := hid hC
  have HO3 := hid (HO2.out.keepG (Nat.lt_succ_self _) hG)
  clear hC hG HO2 HC2
  cases b
  · have HL := hid HC3.out.later
    have HO4 := hid (HO3.out.wide (show w.heap.size ≤ w.heap.size + 1 by omega) (Nat.le_refl _))
    go_wp2_with fail
    refine bodyPost_ret (results_fourG rfl _ _ _) rfl ?_
    exact ⟨_, zs, α, β, _, rfl, HO4.out, hl, HL.out⟩
  · go_wp2_with fail
    refine (curLitG_any w w3 w.heap.size _ bs _ [0, 100000, 100001] (by omega) (by simp) (by simp) HC3.out).mono ?_
    rintro e w4 ⟨z, rfl, _, hC, hG⟩
    have HL := hid hC.later
    have HO4 := hid ((HO3.out.keepG (Nat.lt_succ_self _) hG).wide (show w.heap.size ≤ w.heap.size + 1 by omega) (Nat.le_refl _))
    clear hC hG
    go_wp2_with fail
    refine bodyPost_ret (results_fourG rfl _ _ _) rfl ?_
    exact ⟨_, zs, α, β, _, rfl, HO4.out, hl, HL.out⟩

theorem reach_sum {a b most : Int} {s x : List Int} (hs : Sol s a b) (h : Reach a most s x) : sumL s ≤ sumL x := by
  induction h with
  | base => exact Int.le_refl _
  | step hr hst ih =>
    have := ((upF_all (hr.sol hs) _ (Nat.le_refl _)).2 _ hst.1).2.1
    omega
theorem reach_most {a most : Int} {s x : List Int} (hs : s.getD 0 0 ≤ most) (h : Reach a most s x) : x.getD 0 0 ≤ most := by
  cases h with
  | base => exact hs
  | step _ hst => exact hst.2
theorem sorted_next {L : List (List Int)} (h : SortedB L) {i : Nat} (hi : i + 1 < L.length) : befL (L.getD i []) (L.getD (i + 1) []) = true := by
  have := List.pairwise_iff_getElem.1 h i (i + 1) (by omega) hi (by omega)
  rw [List.getD_eq_getElem?_getD, List.getD_eq_getElem?_getD, List.getElem?_eq_getElem (by omega), List.getElem?_eq_getElem hi]
  exact this
/-- what the law asks of a tree -/
theorem tree_law {zs : List Int} {a b most : Int} {o : Option (List (List Int))} (h : TreeAns zs a b most o) :
    o = none ∨ ∃ L, o = some L ∧ zs ∈ L ∧ L.length ≤ 500 ∧ (∀ j, j < L.length → Sol (L.getD j []) a b ∧ (L.getD j []).getD 0 0 ≤ most ∧ sumL zs ≤ sumL (L.getD j []) ∧ (L.getD j []).length = zs.length ∧ (0 < j → befL (L.getD (j - 1) []) (L.getD j []) = true) ∧
      ∀ y ∈ upF a (L.getD j []) (L.getD j []).length, y.getD 0 0 ≤ most → y ∈ L) ∧ Sol zs a b := by
  unfold TreeAns at h
  split at h
  · rename_i ht
    unfold treeB at ht
    simp only [Bool.and_eq_true, decide_eq_true_eq] at ht
    have hS : Sol zs a b := Sol.of ht.1.1.1 ht.1.1.2
    cases o with
    | none => exact .inl rfl
    | some L =>
      right
      obtain ⟨h1, h2, h3⟩ := h
      refine ⟨L, rfl, (h2 zs).2 .base, h3, fun j hj => ?_, hS⟩
      have hr := (h2 _).1 (at_memG hj)
      refine ⟨hr.sol hS, reach_most ht.2 hr, reach_sum hS hr, hr.len, fun h0 => ?_, fun y hy hm => (h2 y).2 (.step hr ⟨hy, hm⟩)⟩
      have := sorted_next h1 (i := j - 1) (by omega)
      rwa [show j - 1 + 1 = j by omega] at this
  · exact .inl h
/-- equal lists part at a place -/
theorem befL_place : ∀ {xs ys : List Int}, xs.length = ys.length → befL xs ys = true → ∃ d, d < xs.length ∧ (∀ k, k < d → xs.getD k 0 = ys.getD k 0) ∧ xs.getD d 0 < ys.getD d 0 := by
  intro xs
  induction xs with
  | nil =>
    intro ys hl h
    cases ys with
    | nil => simp [befL] at h
    | cons y ys => simp at hl
  | cons x xs ih =>
    intro ys hl h
    cases ys with
    | nil => simp at hl
    | cons y ys =>
      unfold befL at h
      by_cases hxy : x = y
      · subst hxy
        simp at h
        obtain ⟨d, h1, h2, h3⟩ := ih (by simpa using hl) h
        refine ⟨d + 1, by simpa using h1, fun k hk => ?_, by simpa using h3⟩
        cases k with
        | zero => simp
        | succ k => simpa using h2 k (by omega)
      · simp [hxy] at h
        exact ⟨0, by simp, fun k hk => absurd hk (Nat.not_lt_zero k), by simpa using h⟩
end Go.Proofs.Ytoaopmafokoaoaa
