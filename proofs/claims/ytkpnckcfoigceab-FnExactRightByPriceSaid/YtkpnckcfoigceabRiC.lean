/- Right triples in the model: children and parents. -/
import Derived.Test.YtkpnckcfoigceabRiS
import Derived.Test.YtkpnckcfoigceabAns5
namespace Go.Proofs.Ytkpnckcfoigceab
open Go.RowKit

def childAns (C : Int → Int → Int → Int × Int) (zs : List Int) (k : Int) : Option (List Int) :=
  (rightP zs).bind fun p => if 0 ≤ k ∧ k ≤ 2 then tripAns (C p.1 p.2 k).1 (C p.1 p.2 k).2 else none
def parentAns (U : Int → Int → Int × Int × Int) (zs : List Int) : Option (List Int × Int) :=
  (rightP zs).bind fun p => if 2 < p.1 then some (sidesL (U p.1 p.2).1 (U p.1 p.2).2.1, (U p.1 p.2).2.2) else none
theorem childAns_no {C : Int → Int → Int → Int × Int} {zs : List Int} {k : Int} (h : rightP zs = none) : childAns C zs k = none := by unfold childAns; rw [h]; rfl
theorem childAns_out {C : Int → Int → Int → Int × Int} {zs : List Int} {k : Int} (h : within 0 2 k = false) : childAns C zs k = none := by
  unfold childAns
  have : ¬ (0 ≤ k ∧ k ≤ 2) := fun hh => by simp [within, hh.1, hh.2] at h
  cases rightP zs with
  | none => rfl
  | some p => exact if_neg this
theorem childAns_yes {C : Int → Int → Int → Int × Int} {zs : List Int} {k m n : Int} (h : rightP zs = some (m, n)) (hk : within 0 2 k = true) : childAns C zs k = tripAns (C m n k).1 (C m n k).2 := by
  unfold childAns
  rw [h]
  simp only [within, Bool.and_eq_true, decide_eq_true_eq] at hk
  exact if_pos hk
theorem parentAns_no {U : Int → Int → Int × Int × Int} {zs : List Int} (h : rightP zs = none) : parentAns U zs = none := by unfold parentAns; rw [h]; rfl
theorem parentAns_root {U : Int → Int → Int × Int × Int} {zs : List Int} {m n : Int} (h : rightP zs = some (m, n)) (hm : m ≤ 2) : parentAns U zs = none := by
  unfold parentAns; rw [h]; exact if_neg (by simp only; omega)
theorem parentAns_yes {U : Int → Int → Int × Int × Int} {zs : List Int} {m n : Int} (h : rightP zs = some (m, n)) (hm : 2 < m) : parentAns U zs = some (sidesL (U m n).1 (U m n).2.1, (U m n).2.2) := by
  unfold parentAns; rw [h]; exact if_pos hm
/-- 5 is the greatest side of the root alone. -/
theorem five_root {m n : Int} (h : Pair m n) : (m * m + n * n == 5) = decide (m ≤ 2) := by
  have h1 := h.h1
  have h2 := h.h2
  by_cases hm : m ≤ 2
  · obtain rfl : m = 2 := by omega
    obtain rfl : n = 1 := by omega
    rfl
  · have p : (3 : Int) * 3 ≤ m * m := Int.mul_le_mul (by omega) (by omega) (by omega) (by omega)
    have q : (0 : Int) ≤ n * n := Int.mul_nonneg (by omega) (by omega)
    rw [decide_eq_false hm, beq_eq_false_iff_ne]
    omega

set_option maxHeartbeats 1000000 in
theorem riBerg_any (m n k : Int) (w : World) (hm : -1000000 ≤ m ∧ m ≤ 1000000) (hn : -1000000 ≤ n ∧ n ≤ 1000000) :
    Calls Try.prog 17 #[.int .i64 m, .int .i64 n, .int .i64 k] w fun e w' => e = .returned (.tuple #[.int .i64 (bergC m n k).1, .int .i64 (bergC m n k).2]) ∧ w = w' := by
  obtain ⟨m1, m2⟩ := hm
  obtain ⟨n1, n2⟩ := hn
  by_cases h0 : k = 0
  · subst h0
    go_enter Try.func17, Try.ntmps17
    go_wp2_with fail
    go_ret2
    exact ⟨rfl, rfl⟩
  · have hb0 : (k == 0) = false := beq_eq_false_iff_ne.2 h0
    by_cases h1 : k = 1
    · subst h1
      go_enter Try.func17, Try.ntmps17
      go_wp2_with fail
      go_ret2
      exact ⟨rfl, rfl⟩
    · have hb1 : (k == 1) = false := beq_eq_false_iff_ne.2 h1
      have HE := hid (show bergC m n k = (m + 2 * n, n) by unfold bergC; rw [if_neg h0, if_neg h1])
      rw [HE.out]
      go_enter Try.func17, Try.ntmps17
      go_wp2_with fail
      go_ret2
      exact ⟨rfl, rfl⟩

set_option maxHeartbeats 1000000 in
theorem riPrice_any (m n k : Int) (w : World) (hm : -1000000 ≤ m ∧ m ≤ 1000000) (hn : -1000000 ≤ n ∧ n ≤ 1000000) :
    Calls Try.prog 22 #[.int .i64 m, .int .i64 n, .int .i64 k] w fun e w' => e = .returned (.tuple #[.int .i64 (priceC m n k).1, .int .i64 (priceC m n k).2]) ∧ w = w' := by
  obtain ⟨m1, m2⟩ := hm
  obtain ⟨n1, n2⟩ := hn
  by_cases h0 : k = 0
  · subst h0
    go_enter Try.func22, Try.ntmps22
    go_wp2_with fail
    go_ret2
    exact ⟨rfl, rfl⟩
  · have hb0 : (k == 0) = false := beq_eq_false_iff_ne.2 h0
    by_cases h1 : k = 1
    · subst h1
      go_enter Try.func22, Try.ntmps22
      go_wp2_with fail
      go_ret2
      exact ⟨rfl, rfl⟩
    · have hb1 : (k == 1) = false := beq_eq_false_iff_ne.2 h1
      have HE := hid (show priceC m n k = (2 * m, m + n) by unfold priceC; rw [if_neg h0, if_neg h1])
      rw [HE.out]
      go_enter Try.func22, Try.ntmps22
      go_wp2_with fail
      go_ret2
      exact ⟨rfl, rfl⟩

end Go.Proofs.Ytkpnckcfoigceab
