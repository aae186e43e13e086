/- HuLb, HuLc: in one text. -/
import Derived.Test.YtoaopmafokoaoaaHuHT
import Derived.Test.YtoaopmafokoaoaaHuDn
import Derived.Test.YtoaopmafokoaoaaHuUVW
import Derived.Test.YtoaopmafokoaoaaHuJK
import Derived.Test.YtoaopmafokoaoaaHuLa
namespace Go.Proofs.Ytoaopmafokoaoaa
open Go.RowKit


theorem way_zero (a : Int) (zs : List Int) : (wayL a zs).getD 0 [] = zs ∧ 1 ≤ (wayL a zs).length := by unfold wayL; simp
theorem way_end {a b : Int} (k : Nat) : ∀ zs : List Int, Sol zs a b → (sumL zs).toNat ≤ k → lastB a ((wayL a zs).getD ((wayL a zs).length - 1) []) = true := by
  induction k with
  | zero => intro zs h h1; have := h.sum_bd; omega
  | succ k ih =>
    intro zs h h1
    cases hl : lastB a zs
    · have hn := h.next hl
      rw [wayL_step h hl]
      have h2 := ih _ hn.2.1 (by omega)
      have h3 := (way_zero a (nextD a zs)).2
      obtain ⟨n, hn2⟩ : ∃ n, (wayL a (nextD a zs)).length = n + 1 := ⟨(wayL a (nextD a zs)).length - 1, by omega⟩
      rw [hn2] at h2
      rw [List.length_cons, hn2]
      simpa using h2
    · rw [wayL_last hl]
      simpa using hl
theorem way_is {zs : List Int} {a b : Int} (h : Sol zs a b) (k : Nat) (hk : k < (wayL a zs).length) : Sol ((wayL a zs).getD k []) a b ∧ lastB a ((wayL a zs).getD k []) = decide (k + 1 = (wayL a zs).length) := by
  refine ⟨way_sol _ zs h (Nat.le_refl _) k hk, ?_⟩
  by_cases e : k + 1 = (wayL a zs).length
  · rw [decide_eq_true e]
    have := way_end _ zs h (Nat.le_refl _)
    rwa [← e, Nat.add_sub_cancel] at this
  · rw [decide_eq_false e]
    exact (way_next _ zs h (Nat.le_refl _) k (by omega)).1
theorem way_falls {zs : List Int} {a b : Int} (h : Sol zs a b) (k : Nat) (hk : k + 1 < (wayL a zs).length) : sumL ((wayL a zs).getD (k + 1) []) < sumL ((wayL a zs).getD k []) := by
  obtain ⟨h1, h2⟩ := way_next _ zs h (Nat.le_refl _) k hk
  rw [h2]
  exact ((way_is h k (by omega)).1.next h1).2.2.1
theorem climbL_snoc (a : Int) (i : Int) : ∀ (w s x : List Int), climbL a s w = some x → climbL a s (w ++ [i]) = jumpL a x i.toNat := by
  intro w
  induction w with
  | nil =>
    intro s x h
    simp only [climbL, Option.some.injEq] at h
    subst h
    show (match jumpL a s i.toNat with | none => none | some ys => climbL a ys []) = _
    cases jumpL a s i.toNat <;> rfl
  | cons j w ih =>
    intro s x h
    cases hj : jumpL a s j.toNat with
    | none => rw [climbL_none hj] at h; cases h
    | some ys =>
      rw [climbL_some hj] at h
      rw [List.cons_append, climbL_some hj]
      exact ih ys x h
theorem climb_up {zs : List Int} {a b : Int} (h : Sol zs a b) : ∀ m, m + 1 ≤ (wayL a zs).length → climbL a ((wayL a zs).getD ((wayL a zs).length - 1) []) (upW a (wayL a zs) m) = some ((wayL a zs).getD ((wayL a zs).length - 1 - m) []) := by
  intro m
  induction m with
  | zero => intro _; rfl
  | succ m ih =>
    intro hm
    have h1 := ih (by omega)
    rw [upW_succ, climbL_snoc a _ _ _ _ h1]
    obtain ⟨i, hi⟩ : ∃ i, (wayL a zs).length - 2 - m = i := ⟨_, rfl⟩
    have e1 : (wayL a zs).length - 1 - m = i + 1 := by omega
    have e2 : (wayL a zs).length - 1 - (m + 1) = i := by omega
    rw [hi, e1, e2, Int.toNat_natCast]
    exact (idxF_spec (way_back h i (by omega))).2.1
theorem upW_in {zs : List Int} {a b : Int} (h : Sol zs a b) (n : Nat) (hn : n = ((wayL a zs).getD ((wayL a zs).length - 1) []).length) (m : Nat) (hm : m + 1 ≤ (wayL a zs).length) : (upW a (wayL a zs) m).all (within 0 ((n : Int) - 1)) = true := by
  have hlen : ∀ k, k < (wayL a zs).length → ((wayL a zs).getD k []).length = zs.length := by
    intro k
    induction k with
    | zero => intro _; rw [(way_zero a zs).1]
    | succ k ih =>
      intro hk
      have h1 := (way_next _ zs h (Nat.le_refl _) k hk).2
      rw [h1]
      unfold nextD
      rw [sortD_len, List.length_set, ih (by omega)]
  have hz := (way_zero a zs).2
  rw [hlen _ (by omega)] at hn
  rw [List.all_eq_true]
  intro x hx
  unfold upW at hx
  rw [List.mem_map] at hx
  obtain ⟨j, hj, rfl⟩ := hx
  rw [List.mem_range] at hj
  obtain ⟨i, hi⟩ : ∃ i, (wayL a zs).length - 2 - j = i := ⟨_, rfl⟩
  have e1 : (wayL a zs).length - 1 - j = i + 1 := by omega
  rw [hi, e1]
  have h3 := (idxF_spec (way_back h i (by omega))).1
  rw [hlen _ (by omega)] at h3
  simp only [within, Bool.and_eq_true, decide_eq_true_eq]
  omega
/-- the climb by the word up leads back -/
theorem climb_back {zs : List Int} {a b : Int} (h : Sol zs a b) (hl : (wayL a zs).length - 1 ≤ 40) :
    climbAns ((wayL a zs).getD ((wayL a zs).length - 1) []) a b (upW a (wayL a zs) ((wayL a zs).length - 1)) = some zs := by
  have hz := (way_zero a zs).2
  have hr := (way_is h ((wayL a zs).length - 1) (by omega)).1
  have hw : wordB (upW a (wayL a zs) ((wayL a zs).length - 1)) ((wayL a zs).getD ((wayL a zs).length - 1) []).length = true := by
    unfold wordB
    rw [Bool.and_eq_true]
    exact ⟨decide_eq_true (by rw [upW_len]; exact hl), upW_in h _ rfl _ (by omega)⟩
  unfold climbAns
  rw [if_pos ⟨by rw [hr.given, hr.sol]; rfl, hw⟩, climb_up h _ (by omega), Nat.sub_self, (way_zero a zs).1]
/-- what all the answers say -/
theorem ways_law (zs : List Int) (a b : Int) :
    ((givenB a b && solB zs a b) = false ∧ wayAns zs a b = none ∧ fundLAns zs a b = none ∧ upAns zs a b = none ∧ fundAns zs a b = none) ∨
    (Sol zs a b ∧ wayAns zs a b = some (wayL a zs) ∧ fundLAns zs a b = some ((wayL a zs).getD ((wayL a zs).length - 1) []) ∧ upAns zs a b = some (upW a (wayL a zs) ((wayL a zs).length - 1)) ∧ fundAns zs a b = some (lastB a zs)) := by
  cases hg : (givenB a b && solB zs a b)
  · refine .inl ⟨rfl, ?_, ?_, ?_, ?_⟩
    · unfold wayAns; rw [hg]; simp
    · unfold fundLAns; rw [hg]; simp
    · unfold upAns; rw [hg]; simp
    · unfold fundAns; rw [hg]; simp
  · have hg2 := hg
    rw [Bool.and_eq_true] at hg2
    refine .inr ⟨Sol.of hg2.1 hg2.2, ?_, ?_, ?_, ?_⟩
    · unfold wayAns; rw [if_pos hg]
    · unfold fundLAns; rw [if_pos hg]
    · unfold upAns; rw [if_pos hg]
    · unfold fundAns; rw [if_pos hg]
theorem isHu_and (zs : List Int) (a b : Int) : ((isHuAns zs a b).getD false && (isHuAns zs a b).isSome) = (givenB a b && solB zs a b) := by
  unfold isHuAns
  cases givenB a b <;> cases solB zs a b <;> simp


def fundL (a : Int) (zs : List Int) : List Int := (wayL a zs).getD ((wayL a zs).length - 1) []
theorem fundL_step {zs : List Int} {a b : Int} (h : Sol zs a b) (hl : lastB a zs = false) : fundL a zs = fundL a (nextD a zs) := by
  unfold fundL
  rw [wayL_step h hl]
  have h3 := (way_zero a (nextD a zs)).2
  obtain ⟨n, hn2⟩ : ∃ n, (wayL a (nextD a zs)).length = n + 1 := ⟨(wayL a (nextD a zs)).length - 1, by omega⟩
  rw [List.length_cons, hn2]
  simp
theorem sqs_at {zs : List Int} {i : Nat} (hi : i < zs.length) : sqs zs = zs.getD i 0 * zs.getD i 0 + sqs (zs.eraseIdx i) := by
  rw [sqs_perm (perm_at hi), sqs_cons]
theorem head_sq {zs : List Int} (h : In5 zs) {i : Nat} (hi : i < zs.length) (h0 : i ≠ 0) : zs.getD 0 0 * zs.getD 0 0 ≤ sqs (zs.eraseIdx i) := by
  cases zs with
  | nil => simp at hi
  | cons x tl =>
    cases i with
    | zero => exact absurd rfl h0
    | succ i =>
      rw [List.eraseIdx_cons_succ, sqs_cons]
      have := (sqs_bd (h.tail.erase i)).1
      show x * x ≤ x * x + _
      omega
theorem Sol.dn {zs : List Int} {a b : Int} (h : Sol zs a b) : Dn zs := ((fallB_iff (by omega)).1 h.hf).1
theorem dn_head {zs : List Int} (h : Dn zs) {i : Nat} (hi : i < zs.length) : zs.getD i 0 ≤ zs.getD 0 0 := by
  cases zs with
  | nil => simp at hi
  | cons x tl =>
    cases i with
    | zero => exact Int.le_refl _
    | succ i =>
      have h1 := (List.pairwise_cons.1 h).1
      show tl.getD i 0 ≤ x
      rw [List.length_cons] at hi
      have hi2 : i < tl.length := by omega
      rw [getD_at tl i hi2]
      exact h1 _ (List.getElem_mem hi2)
/-- a jump keeps the fundamental solution, where nothing is added -/
theorem fund_jump {zs ys : List Int} {a : Int} (h : Sol zs a 0) {i : Nat} (hi : i < zs.length) (hj : jumpL a zs i = some ys) : fundL a ys = fundL a zs := by
  have hS := h.jump hi hj
  have hmul := oth_mul h hi
  obtain ⟨hr, hy⟩ := jump_form hj
  have hsum := jump_sum hi hj
  obtain ⟨k, hk, hke⟩ := jump_in hi hj
  have hsq := sqs_at hi
  have h5 := h.in5
  have hm := h5 (zs.getD i 0) (by rw [getD_at zs i hi]; exact List.getElem_mem hi)
  have h0 : 0 < zs.length := by omega
  have hx0 := h5 (zs.getD 0 0) (by rw [getD_at zs 0 h0]; exact List.getElem_mem h0)
  have hle := dn_head h.dn hi
  have hbk := fun j h1 h2 => jump_back (k := j) h hi hj h1 h2
  obtain ⟨r, hre⟩ : ∃ r, othL a zs i = r := ⟨_, rfl⟩
  rw [hre] at hmul hr hy hsum hke hbk
  obtain ⟨m, hme⟩ : ∃ r, zs.getD i 0 = r := ⟨_, rfl⟩
  rw [hme] at hmul hsum hsq hm hle
  obtain ⟨x, hxe⟩ : ∃ r, zs.getD 0 0 = r := ⟨_, rfl⟩
  rw [hxe] at hx0 hle
  have hmax : i ≠ 0 → x ≤ r := by
    intro hn
    have h1 := head_sq h5 hi hn
    rw [hxe] at h1
    have h2 : x * x ≤ r * m := by omega
    apply Int.not_lt.1
    intro hlt
    have h3 : r * m ≤ (x - 1) * x := Int.mul_le_mul (by omega) hle (by omega) (by omega)
    rw [Int.sub_mul] at h3
    omega
  by_cases hrm : r < m
  · have hi0 : i = 0 := by
      apply Decidable.byContradiction
      intro hn
      have := hmax hn
      omega
    subst hi0
    have hxm : x = m := by rw [← hxe, ← hme]
    have hl : lastB a zs = false := by
      unfold lastB
      rw [hre, hxe]
      have : within 1 (x - 1) r = true := by simp only [within, Bool.and_eq_true, decide_eq_true_eq]; omega
      rw [this]
      rfl
    have hn := (h.next hl).1
    rw [hj, Option.some.injEq] at hn
    rw [fundL_step h hl, ← hn]
  · have hxr : x ≤ r := by
      by_cases hi0 : i = 0
      · subst hi0
        have hxm : x = m := by rw [← hxe, ← hme]
        omega
      · exact hmax hi0
    by_cases he : r = m
    · have : ys = zs := by
        rw [hy, he, ← hme]
        have : zs.set i (zs.getD i 0) = zs := by rw [getD_at zs i hi]; exact List.set_getElem_self hi
        rw [this]
        exact sortD_of h.dn (List.Perm.refl _)
      rw [this]
    · have hy0 : 0 < ys.length := by omega
      have hhd : ys.getD 0 0 = r := by
        have h1 := dn_head hS.dn hk
        rw [hke] at h1
        have h2 : ys.getD 0 0 ∈ zs.set i r := by
          have h3 : ys.getD 0 0 ∈ ys := by rw [getD_at ys 0 hy0]; exact List.getElem_mem hy0
          rw [hy] at h3 ⊢
          exact (sortD_perm _).mem_iff.1 h3
        rcases List.mem_or_eq_of_mem_set h2 with h3 | h3
        · obtain ⟨j, hj2, hj3⟩ := List.getElem_of_mem h3
          have h4 := dn_head h.dn hj2
          rw [getD_at zs j hj2, hj3, hxe] at h4
          omega
        · exact h3
      have hb := hbk 0 hy0 hhd
      have hs2 := jump_sum hy0 hb
      rw [hhd] at hs2
      have ho : othL a ys 0 = m := by omega
      have hl : lastB a ys = false := by
        unfold lastB
        rw [ho, hhd]
        have : within 1 (r - 1) m = true := by simp only [within, Bool.and_eq_true, decide_eq_true_eq]; omega
        rw [this]
        rfl
      have hn := (hS.next hl).1
      rw [hb, Option.some.injEq] at hn
      rw [fundL_step hS hl, ← hn]
theorem climb_fund {a : Int} : ∀ (word zs ys : List Int), Sol zs a 0 → word.all (within 0 ((zs.length : Int) - 1)) = true → climbL a zs word = some ys → Sol ys a 0 ∧ fundL a ys = fundL a zs := by
  intro word
  induction word with
  | nil =>
    intro zs ys h _ hc
    simp only [climbL, Option.some.injEq] at hc
    subst hc
    exact ⟨h, rfl⟩
  | cons i word ih =>
    intro zs ys h hw hc
    rw [List.all_cons, Bool.and_eq_true] at hw
    obtain ⟨hw1, hw2⟩ := hw
    simp only [within, Bool.and_eq_true, decide_eq_true_eq] at hw1
    cases hj : jumpL a zs i.toNat with
    | none => rw [climbL_none hj] at hc; cases hc
    | some q =>
      rw [climbL_some hj] at hc
      have hi : i.toNat < zs.length := by omega
      have h2 := ih q ys (h.jump hi hj) (by rw [Sol.jump_len hj]; exact hw2) hc
      exact ⟨h2.1, by rw [h2.2, fund_jump h hi hj]⟩
/-- any climb ends at a solution -/
theorem climb_sol {a b : Int} : ∀ (word zs ys : List Int), Sol zs a b → word.all (within 0 ((zs.length : Int) - 1)) = true → climbL a zs word = some ys → Sol ys a b := by
  intro word
  induction word with
  | nil =>
    intro zs ys h _ hc
    simp only [climbL, Option.some.injEq] at hc
    subst hc
    exact h
  | cons i word ih =>
    intro zs ys h hw hc
    rw [List.all_cons, Bool.and_eq_true] at hw
    obtain ⟨hw1, hw2⟩ := hw
    simp only [within, Bool.and_eq_true, decide_eq_true_eq] at hw1
    cases hj : jumpL a zs i.toNat with
    | none => rw [climbL_none hj] at hc; cases hc
    | some q =>
      rw [climbL_some hj] at hc
      exact ih q ys (h.jump (by omega) hj) (by rw [Sol.jump_len hj]; exact hw2) hc
/-- where a climb answers, each of its steps does: after k letters there is a solution, and the next letter leads on -/
theorem climb_at {a b : Int} : ∀ (word zs ys : List Int), Sol zs a b → word.all (within 0 ((zs.length : Int) - 1)) = true → climbL a zs word = some ys →
    ∃ f : Nat → List Int, f 0 = zs ∧ f word.length = ys ∧ ∀ k, k < word.length → Sol (f k) a b ∧ (f k).length = zs.length ∧ jumpL a (f k) (word.getD k 0).toNat = some (f (k + 1)) ∧ 0 ≤ word.getD k 0 ∧ (word.getD k 0).toNat < (f k).length := by
  intro word
  induction word with
  | nil =>
    intro zs ys h _ hc
    simp only [climbL, Option.some.injEq] at hc
    subst hc
    exact ⟨fun _ => zs, rfl, rfl, fun k hk => absurd hk (Nat.not_lt_zero k)⟩
  | cons i word ih =>
    intro zs ys h hw hc
    rw [List.all_cons, Bool.and_eq_true] at hw
    obtain ⟨hw1, hw2⟩ := hw
    simp only [within, Bool.and_eq_true, decide_eq_true_eq] at hw1
    cases hj : jumpL a zs i.toNat with
    | none => rw [climbL_none hj] at hc; cases hc
    | some q =>
      rw [climbL_some hj] at hc
      have hi : i.toNat < zs.length := by omega
      obtain ⟨f, h0, h1, h2⟩ := ih q ys (h.jump hi hj) (by rw [Sol.jump_len hj]; exact hw2) hc
      refine ⟨fun k => match k with | 0 => zs | k + 1 => f k, rfl, h1, ?_⟩
      intro k hk
      cases k with
      | zero => exact ⟨h, rfl, by show jumpL a zs i.toNat = some (f 0); rw [hj, h0], hw1.1, hi⟩
      | succ k =>
        rw [List.length_cons] at hk
        have h3 := h2 k (by omega)
        exact ⟨h3.1, by rw [← Sol.jump_len hj]; exact h3.2.1, h3.2.2.1, h3.2.2.2.1, h3.2.2.2.2⟩
end Go.Proofs.Ytoaopmafokoaoaa
