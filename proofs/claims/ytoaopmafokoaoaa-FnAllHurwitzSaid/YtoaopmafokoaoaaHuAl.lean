/- All solutions up to a bound: which they are, their order, where they come down to; factors for no rest. -/
import Derived.Test.YtoaopmafokoaoaaHuLbx
import Derived.Test.YtoaopmafokoaoaaHuFst
import Derived.Test.YtoaopmafokoaoaaHuEf
import Derived.Test.YtoaopmafokoaoaaHuTeh
import Derived.Test.YtoaopmafokoaoaaVhG
import Derived.Test.YtoaopmafokoaoaaCuHx
namespace Go.Proofs.Ytoaopmafokoaoaa
open Go.RowKit

theorem visP_has (m : Nat) : ∀ (pre suf : List Int) (most : Nat), suf.length = m → fallB most suf = true → most ≤ 100000 → pre ++ suf ∈ visP m pre most := by
  induction m with
  | zero =>
    intro pre suf most hl _ _
    obtain rfl : suf = [] := List.length_eq_zero_iff.1 hl
    simp [visP]
  | succ m ih =>
    intro pre suf most hl hf hm
    cases suf with
    | nil => simp at hl
    | cons z suf =>
      simp only [fallB, Bool.and_eq_true, decide_eq_true_eq] at hf
      obtain ⟨⟨h1, h2⟩, h3⟩ := hf
      obtain ⟨k, rfl⟩ : ∃ k : Nat, z = ((k + 1 : Nat) : Int) := ⟨(z - 1).toNat, by omega⟩
      show pre ++ ((k + 1 : Nat) : Int) :: suf ∈ (List.range most).flatMap fun x => visP m (pre ++ [((x + 1 : Nat) : Int)]) (x + 1)
      refine List.mem_flatMap.2 ⟨k, List.mem_range.2 (by omega), ?_⟩
      have := ih (pre ++ [((k + 1 : Nat) : Int)]) suf (k + 1) (by simpa using hl) h3 (by omega)
      simpa using this
/-- which lists are told -/
theorem allS_iff {parts a b most : Int} (h : taskB parts a b most = true) (l : List Int) : l ∈ allS parts a b most ↔ Sol l a b ∧ (l.length : Int) = parts ∧ l.getD 0 0 ≤ most := by
  obtain ⟨hp, hg, h1, h2⟩ := taskB_iff.1 h
  unfold allS allF
  rw [List.mem_filter]
  constructor
  · rintro ⟨hm, hs⟩
    have hS := Sol.of hg hs
    obtain ⟨suf, e, hl, hf⟩ := visP_mem _ _ _ _ hm
    simp only [List.nil_append] at e
    subst e
    refine ⟨hS, by omega, ?_⟩
    cases l with
    | nil => have := hS.hl; simp at this
    | cons z l =>
      simp only [fallB, Bool.and_eq_true, decide_eq_true_eq] at hf
      show z ≤ most
      omega
  · rintro ⟨hS, hl, hz⟩
    refine ⟨?_, hS.sol⟩
    have hd := hS.dn
    have hin := hS.in5
    have hf : fallB (most.toNat : Int) l = true := by
      rw [fallB_iff (by omega)]
      refine ⟨hd, fun z hz2 => ?_⟩
      obtain ⟨i, hi, e⟩ := List.getElem_of_mem hz2
      have := dn_head hd hi
      rw [getD_at l i hi, e] at this
      have := hin z hz2
      omega
    have := visP_has parts.toNat [] l most.toNat (by omega) hf (by omega)
    simpa using this
theorem befL_pre (pre : List Int) : ∀ xs ys : List Int, befL (pre ++ xs) (pre ++ ys) = befL xs ys := by
  induction pre with
  | nil => intro xs ys; rfl
  | cons p pre ih => intro xs ys; simp [befL, ih]
theorem visP_sorted (m : Nat) : ∀ (pre : List Int) (most : Nat), SortedB (visP m pre most) := by
  induction m with
  | zero => intro pre most; exact List.pairwise_singleton _ _
  | succ m ih =>
    intro pre most
    show SortedB ((List.range most).flatMap fun x => visP m (pre ++ [((x + 1 : Nat) : Int)]) (x + 1))
    unfold SortedB
    rw [List.pairwise_flatMap]
    refine ⟨fun x _ => ih _ _, ?_⟩
    refine List.Pairwise.imp (R := fun x y : Nat => x < y) ?_ (List.pairwise_lt_range)
    intro x y hxy p hp q hq
    obtain ⟨s1, e1, _, _⟩ := visP_mem _ _ _ _ hp
    obtain ⟨s2, e2, _, _⟩ := visP_mem _ _ _ _ hq
    subst e1
    subst e2
    rw [List.append_assoc, List.append_assoc, befL_pre]
    have h1 : ((x + 1 : Nat) : Int) ≠ ((y + 1 : Nat) : Int) := by omega
    have h2 : ((x + 1 : Nat) : Int) < ((y + 1 : Nat) : Int) := by omega
    show (if ((x + 1 : Nat) : Int) ≠ ((y + 1 : Nat) : Int) then decide (((x + 1 : Nat) : Int) < ((y + 1 : Nat) : Int)) else _) = true
    rw [if_pos h1]
    exact decide_eq_true h2
theorem allS_sorted (parts a b most : Int) : SortedB (allS parts a b most) := (visP_sorted _ _ _).filter _
/-- the first number doesn't rise along the way down -/
theorem next_head {zs : List Int} {a b : Int} (h : Sol zs a b) (hl : lastB a zs = false) : (nextD a zs).getD 0 0 ≤ zs.getD 0 0 ∧ (nextD a zs).length = zs.length := by
  have h0 : 0 < zs.length := by have := h.hl; omega
  unfold lastB at hl
  have hw : 1 ≤ othL a zs 0 ∧ othL a zs 0 ≤ zs.getD 0 0 - 1 := by
    have : within 1 (zs.getD 0 0 - 1) (othL a zs 0) = true := by simpa using hl
    simpa [within] using this
  have hlen : (nextD a zs).length = zs.length := by unfold nextD; rw [sortD_len, List.length_set]
  refine ⟨?_, hlen⟩
  have hp : (nextD a zs).Perm (zs.set 0 (othL a zs 0)) := sortD_perm _
  have hm : (nextD a zs).getD 0 0 ∈ nextD a zs := by rw [getD_at _ 0 (by omega)]; exact List.getElem_mem _
  have hm2 := hp.mem_iff.1 hm
  rcases List.mem_or_eq_of_mem_set hm2 with h1 | h1
  · obtain ⟨i, hi, e⟩ := List.getElem_of_mem h1
    have := dn_head h.dn hi
    rw [getD_at zs i hi, e] at this
    exact this
  · omega
theorem fundL_end {a b : Int} (k : Nat) : ∀ zs : List Int, Sol zs a b → (sumL zs).toNat ≤ k → Sol (fundL a zs) a b ∧ lastB a (fundL a zs) = true ∧ (fundL a zs).getD 0 0 ≤ zs.getD 0 0 ∧ (fundL a zs).length = zs.length := by
  induction k with
  | zero =>
    intro zs h hk
    have := h.sum_bd
    omega
  | succ k ih =>
    intro zs h hk
    cases hl : lastB a zs
    · rw [fundL_step h hl]
      obtain ⟨_, h1, h2, h3⟩ := h.next hl
      obtain ⟨q1, q2, q3, q4⟩ := ih _ h1 (by omega)
      obtain ⟨r1, r2⟩ := next_head h hl
      exact ⟨q1, q2, by omega, by omega⟩
    · have : fundL a zs = zs := by unfold fundL; rw [wayL_last hl]; rfl
      rw [this]
      exact ⟨h, hl, Int.le_refl _, rfl⟩
/-- what the law asks of all solutions -/
theorem all_law (parts a b most : Int) :
    (solsAns parts a b most = none ∧ fundsAns parts a b most = none) ∨ ∃ L, solsAns parts a b most = some L ∧ fundsAns parts a b most = some (L.filter (lastB a)) ∧ L.length ≤ 500 ∧
      (∀ j, j < L.length → Sol (L.getD j []) a b ∧ (L.getD j []).getD 0 0 ≤ most ∧ ((L.getD j []).length : Int) = parts ∧ fundL a (L.getD j []) ∈ L.filter (lastB a) ∧ (0 < j → befL (L.getD (j - 1) []) (L.getD j []) = true)) := by
  rw [fundsAns_of]
  cases ho : solsAns parts a b most with
  | none => exact .inl ⟨rfl, rfl⟩
  | some L =>
    right
    have ho2 := ho
    unfold solsAns at ho2
    split at ho2
    · rename_i hh
      simp only [Option.some.injEq] at ho2
      subst ho2
      refine ⟨_, rfl, rfl, hh.2, fun j hj => ?_⟩
      obtain ⟨hS, hlen, hm⟩ := (allS_iff hh.1 _).1 (at_memG hj)
      obtain ⟨q1, q2, q3, q4⟩ := fundL_end _ _ hS (Nat.le_refl _)
      refine ⟨hS, hm, hlen, List.mem_filter.2 ⟨(allS_iff hh.1 _).2 ⟨q1, by omega, by omega⟩, q2⟩, fun h0 => ?_⟩
      have := sorted_next (allS_sorted parts a b most) (i := j - 1) (by omega)
      rwa [show j - 1 + 1 = j by omega] at this
    · cases ho2
/-- with nothing added the factor is at most the number of parts -/
theorem fund_fac3 {a x y z : Int} (hy : 1 ≤ z ∧ z ≤ y ∧ y ≤ x) (ha : 1 ≤ a) (h : x * x + y * y + z * z = a * (x * (y * z))) (hl : 2 * x ≤ a * (y * z)) : a ≤ 3 := by
  have e1 : (a * (y * z) - x - y) * (x - y) ≥ 0 := Int.mul_nonneg (by omega) (by omega)
  have e2 : a * z * (y * y) ≤ 2 * (y * y) + z * z := by grind
  have e3 : z * z ≤ y * y := Int.mul_le_mul hy.2.1 hy.2.1 (by omega) (by omega)
  have e4 : 0 < y * y := Int.mul_pos (by omega) (by omega)
  have e5 : a * z * (y * y) ≤ 3 * (y * y) := by omega
  have e6 : a * z ≤ 3 := Int.le_of_mul_le_mul_right e5 e4
  have e7 : a * 1 ≤ a * z := Int.mul_le_mul_of_nonneg_left hy.1 (by omega)
  omega
theorem fund_fac4 {a x y z t : Int} (hy : 1 ≤ t ∧ t ≤ z ∧ z ≤ y ∧ y ≤ x) (ha : 1 ≤ a) (h : x * x + y * y + z * z + t * t = a * (x * (y * (z * t)))) (hl : 2 * x ≤ a * (y * (z * t))) : a ≤ 4 := by
  have e1 : (a * (y * (z * t)) - x - y) * (x - y) ≥ 0 := Int.mul_nonneg (by omega) (by omega)
  have e2 : a * (z * t) * (y * y) ≤ 2 * (y * y) + z * z + t * t := by grind
  have e3 : z * z ≤ y * y := Int.mul_le_mul hy.2.2.1 hy.2.2.1 (by omega) (by omega)
  have e3' : t * t ≤ z * z := Int.mul_le_mul hy.2.1 hy.2.1 (by omega) (by omega)
  have e4 : 0 < y * y := Int.mul_pos (by omega) (by omega)
  have e5 : a * (z * t) * (y * y) ≤ 4 * (y * y) := by omega
  have e6 : a * (z * t) ≤ 4 := Int.le_of_mul_le_mul_right e5 e4
  have e8 : 1 * 1 ≤ z * t := Int.mul_le_mul (by omega) (by omega) (by omega) (by omega)
  have e7 : a * 1 ≤ a * (z * t) := Int.mul_le_mul_of_nonneg_left (by omega) (by omega)
  omega
theorem last_le {zs : List Int} {a : Int} (h : Sol zs a 0) (hl : lastB a zs = true) : 2 * zs.getD 0 0 ≤ restP a zs 0 := by
  have h0 : 0 < zs.length := by have := h.hl; omega
  unfold lastB at hl
  have hx := h.in5 (zs.getD 0 0) (by rw [getD_at _ 0 h0]; exact List.getElem_mem _)
  have hm := oth_mul h h0
  have hw : ¬ (1 ≤ othL a zs 0 ∧ othL a zs 0 ≤ zs.getD 0 0 - 1) := by
    have : within 1 (zs.getD 0 0 - 1) (othL a zs 0) = false := by simpa using hl
    simpa [within] using this
  have hpos : 1 ≤ othL a zs 0 := by
    have e := sqs_at h0
    have e2 := (sqs_bd (h.in5.erase 0)).1
    have h1 : 0 < sqs (zs.eraseIdx 0) := by
      cases zs with
      | nil => simp at h0
      | cons x tl =>
        cases tl with
        | nil => have := h.hl; simp at this
        | cons y tl =>
          show 0 < sqs (y :: tl)
          rw [sqs_cons]
          have hy := h.in5 y (by simp)
          have := (sqs_bd h.in5.tail.tail).1
          have := Int.mul_pos (show 0 < y by omega) (show 0 < y by omega)
          omega
    have h2 : 0 < othL a zs 0 * zs.getD 0 0 := by omega
    rcases Int.lt_or_le 0 (othL a zs 0) with h3 | h3
    · omega
    · have := Int.mul_nonpos_of_nonpos_of_nonneg h3 (show 0 ≤ zs.getD 0 0 by omega)
      omega
  have : othL a zs 0 = restP a zs 0 - zs.getD 0 0 := rfl
  omega
theorem fund_fac {zs : List Int} {a : Int} (h : Sol zs a 0) (hl : lastB a zs = true) : a ≤ zs.length := by
  have h2 := last_le h hl
  have he := h.he
  have hd := h.dn
  have hi := h.in5
  have ha := h.ha
  have hlen := h.hl
  match zs, hlen with
  | [x, y, z], _ =>
    have := fund_fac3 (a := a) (x := x) (y := y) (z := z) (by have := hi z (by simp); simp [Dn] at hd; omega) (by omega) (by simp [sqs, prodL] at he; omega) (by simpa [restP, prodL] using h2)
    simpa using this
  | [x, y, z, t], _ =>
    have := fund_fac4 (a := a) (x := x) (y := y) (z := z) (t := t) (by have := hi t (by simp); simp [Dn] at hd; omega) (by omega) (by simp [sqs, prodL] at he; omega) (by simpa [restP, prodL] using h2)
    simpa using this
/-- what the law asks of factors -/
theorem facs_law (p d most : Int) : ∀ f ∈ (facsAns p d most).getD [], d = 0 → f ≤ p := by
  intro f hf h0
  subst h0
  unfold facsAns at hf
  split at hf
  · rename_i ht
    simp only [Option.getD_some, facK, List.mem_map, List.mem_filter, List.mem_range] at hf
    obtain ⟨i, ⟨hi, hh⟩, rfl⟩ := hf
    unfold hasF at hh
    have hh := of_decide_eq_true hh
    have hT := taskB_all ht i hi
    obtain ⟨hS, hlen, hm⟩ := (allS_iff hT _).1 (at_memG hh)
    obtain ⟨q1, q2, q3, q4⟩ := fundL_end _ _ hS (Nat.le_refl _)
    have := fund_fac q1 q2
    omega
  · simp at hf
end Go.Proofs.Ytoaopmafokoaoaa
