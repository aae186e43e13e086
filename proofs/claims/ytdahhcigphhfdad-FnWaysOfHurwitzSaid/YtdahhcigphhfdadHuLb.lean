/- Equations of Hurwitz: what the law on ways says: arithmetic. -/
import Derived.Test.YtdahhcigphhfdadHuBk
import Derived.Test.YtdahhcigphhfdadHuDn
import Derived.Test.YtdahhcigphhfdadHuW
import Derived.Test.YtdahhcigphhfdadHuK
namespace Go.Proofs.Ytdahhcigphhfdad
open Go.RowKit

theorem way_zero (a : Int) (zs : List Int) : (wayL a zs).getD 0 [] = zs ∧ 1 ≤ (wayL a zs).length := by unfold wayL; simp
theorem way_end {a b : Int} (k : Nat) : ∀ zs : List Int, Sol zs a b → (sumL zs).toNat ≤ k → lastB a ((wayL a zs).getD ((wayL a zs).length - 1) []) = true := by
  induction k with
  | zero => intro zs h h1; have := h.sum_bd; omega
  | succ k ih =>
    intro zs h h1
    cases hl : lastB a zs
    · have hn := h.next hl
      rw [wayL_step h hl]
      have h2 := ih _ hn.2.1 (by omega)
      have h3 := (way_zero a (nextD a zs)).2
      obtain ⟨n, hn2⟩ : ∃ n, (wayL a (nextD a zs)).length = n + 1 := ⟨(wayL a (nextD a zs)).length - 1, by omega⟩
      rw [hn2] at h2
      rw [List.length_cons, hn2]
      simpa using h2
    · rw [wayL_last hl]
      simpa using hl
theorem way_is {zs : List Int} {a b : Int} (h : Sol zs a b) (k : Nat) (hk : k < (wayL a zs).length) : Sol ((wayL a zs).getD k []) a b ∧ lastB a ((wayL a zs).getD k []) = decide (k + 1 = (wayL a zs).length) := by
  refine ⟨way_sol _ zs h (Nat.le_refl _) k hk, ?_⟩
  by_cases e : k + 1 = (wayL a zs).length
  · rw [decide_eq_true e]
    have := way_end _ zs h (Nat.le_refl _)
    rwa [← e, Nat.add_sub_cancel] at this
  · rw [decide_eq_false e]
    exact (way_next _ zs h (Nat.le_refl _) k (by omega)).1
theorem way_falls {zs : List Int} {a b : Int} (h : Sol zs a b) (k : Nat) (hk : k + 1 < (wayL a zs).length) : sumL ((wayL a zs).getD (k + 1) []) < sumL ((wayL a zs).getD k []) := by
  obtain ⟨h1, h2⟩ := way_next _ zs h (Nat.le_refl _) k hk
  rw [h2]
  exact ((way_is h k (by omega)).1.next h1).2.2.1
theorem climbL_snoc (a : Int) (i : Int) : ∀ (w s x : List Int), climbL a s w = some x → climbL a s (w ++ [i]) = jumpL a x i.toNat := by
  intro w
  induction w with
  | nil =>
    intro s x h
    simp only [climbL, Option.some.injEq] at h
    subst h
    show (match jumpL a s i.toNat with | none => none | some ys => climbL a ys []) = _
    cases jumpL a s i.toNat <;> rfl
  | cons j w ih =>
    intro s x h
    cases hj : jumpL a s j.toNat with
    | none => rw [climbL_none hj] at h; cases h
    | some ys =>
      rw [climbL_some hj] at h
      rw [List.cons_append, climbL_some hj]
      exact ih ys x h
theorem climb_up {zs : List Int} {a b : Int} (h : Sol zs a b) : ∀ m, m + 1 ≤ (wayL a zs).length → climbL a ((wayL a zs).getD ((wayL a zs).length - 1) []) (upW a (wayL a zs) m) = some ((wayL a zs).getD ((wayL a zs).length - 1 - m) []) := by
  intro m
  induction m with
  | zero => intro _; rfl
  | succ m ih =>
    intro hm
    have h1 := ih (by omega)
    rw [upW_succ, climbL_snoc a _ _ _ _ h1]
    obtain ⟨i, hi⟩ : ∃ i, (wayL a zs).length - 2 - m = i := ⟨_, rfl⟩
    have e1 : (wayL a zs).length - 1 - m = i + 1 := by omega
    have e2 : (wayL a zs).length - 1 - (m + 1) = i := by omega
    rw [hi, e1, e2, Int.toNat_natCast]
    exact (idxF_spec (way_back h i (by omega))).2.1
theorem upW_in {zs : List Int} {a b : Int} (h : Sol zs a b) (n : Nat) (hn : n = ((wayL a zs).getD ((wayL a zs).length - 1) []).length) (m : Nat) (hm : m + 1 ≤ (wayL a zs).length) : (upW a (wayL a zs) m).all (within 0 ((n : Int) - 1)) = true := by
  have hlen : ∀ k, k < (wayL a zs).length → ((wayL a zs).getD k []).length = zs.length := by
    intro k
    induction k with
    | zero => intro _; rw [(way_zero a zs).1]
    | succ k ih =>
      intro hk
      have h1 := (way_next _ zs h (Nat.le_refl _) k hk).2
      rw [h1]
      unfold nextD
      rw [sortD_len, List.length_set, ih (by omega)]
  have hz := (way_zero a zs).2
  rw [hlen _ (by omega)] at hn
  rw [List.all_eq_true]
  intro x hx
  unfold upW at hx
  rw [List.mem_map] at hx
  obtain ⟨j, hj, rfl⟩ := hx
  rw [List.mem_range] at hj
  obtain ⟨i, hi⟩ : ∃ i, (wayL a zs).length - 2 - j = i := ⟨_, rfl⟩
  have e1 : (wayL a zs).length - 1 - j = i + 1 := by omega
  rw [hi, e1]
  have h3 := (idxF_spec (way_back h i (by omega))).1
  rw [hlen _ (by omega)] at h3
  simp only [within, Bool.and_eq_true, decide_eq_true_eq]
  omega
/-- the climb by the word up leads back -/
theorem climb_back {zs : List Int} {a b : Int} (h : Sol zs a b) (hl : (wayL a zs).length - 1 ≤ 40) :
    climbAns ((wayL a zs).getD ((wayL a zs).length - 1) []) a b (upW a (wayL a zs) ((wayL a zs).length - 1)) = some zs := by
  have hz := (way_zero a zs).2
  have hr := (way_is h ((wayL a zs).length - 1) (by omega)).1
  have hw : wordB (upW a (wayL a zs) ((wayL a zs).length - 1)) ((wayL a zs).getD ((wayL a zs).length - 1) []).length = true := by
    unfold wordB
    rw [Bool.and_eq_true]
    exact ⟨decide_eq_true (by rw [upW_len]; exact hl), upW_in h _ rfl _ (by omega)⟩
  unfold climbAns
  rw [if_pos ⟨by rw [hr.given, hr.sol]; rfl, hw⟩, climb_up h _ (by omega), Nat.sub_self, (way_zero a zs).1]
/-- what all the answers say -/
theorem ways_law (zs : List Int) (a b : Int) :
    ((givenB a b && solB zs a b) = false ∧ wayAns zs a b = none ∧ fundLAns zs a b = none ∧ upAns zs a b = none ∧ fundAns zs a b = none) ∨
    (Sol zs a b ∧ wayAns zs a b = some (wayL a zs) ∧ fundLAns zs a b = some ((wayL a zs).getD ((wayL a zs).length - 1) []) ∧ upAns zs a b = some (upW a (wayL a zs) ((wayL a zs).length - 1)) ∧ fundAns zs a b = some (lastB a zs)) := by
  cases hg : (givenB a b && solB zs a b)
  · refine .inl ⟨rfl, ?_, ?_, ?_, ?_⟩
    · unfold wayAns; rw [hg]; simp
    · unfold fundLAns; rw [hg]; simp
    · unfold upAns; rw [hg]; simp
    · unfold fundAns; rw [hg]; simp
  · have hg2 := hg
    rw [Bool.and_eq_true] at hg2
    refine .inr ⟨Sol.of hg2.1 hg2.2, ?_, ?_, ?_, ?_⟩
    · unfold wayAns; rw [if_pos hg]
    · unfold fundLAns; rw [if_pos hg]
    · unfold upAns; rw [if_pos hg]
    · unfold fundAns; rw [if_pos hg]
theorem isHu_and (zs : List Int) (a b : Int) : ((isHuAns zs a b).getD false && (isHuAns zs a b).isSome) = (givenB a b && solB zs a b) := by
  unfold isHuAns
  cases givenB a b <;> cases solB zs a b <;> simp
end Go.Proofs.Ytdahhcigphhfdad
