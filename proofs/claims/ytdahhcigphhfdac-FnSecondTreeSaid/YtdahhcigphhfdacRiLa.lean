/- Right triples: what the laws say of children, parents, words: arithmetic. -/
import Derived.Test.YtdahhcigphhfdacRiC
import Derived.Test.YtdahhcigphhfdacRiW
import Derived.Test.YtdahhcigphhfdacRiH
namespace Go.Proofs.Ytdahhcigphhfdac
open Go.RowKit

theorem tripAns_some {m n : Int} {t : List Int} (h : tripAns m n = some t) : Pair m n ∧ t = sidesL m n := by
  unfold tripAns at h
  split at h
  · rename_i hp
    injection h with h
    exact ⟨pairB_iff.1 hp, h.symm⟩
  · cases h
theorem childAns_some {C : Int → Int → Int → Int × Int} {zs t : List Int} {k : Int} (h : childAns C zs k = some t) : ∃ m n, rightP zs = some (m, n) ∧ 0 ≤ k ∧ k ≤ 2 ∧ Pair (C m n k).1 (C m n k).2 ∧ t = sidesL (C m n k).1 (C m n k).2 ∧ Pair m n ∧ zs = sidesL m n := by
  unfold childAns at h
  cases hr : rightP zs with
  | none => rw [hr] at h; cases h
  | some p =>
    obtain ⟨m, n⟩ := p
    rw [hr] at h
    simp only [Option.bind_some] at h
    split at h
    · rename_i hk
      obtain ⟨h1, h2⟩ := tripAns_some h
      obtain ⟨h3, h4⟩ := right_some hr
      exact ⟨m, n, rfl, hk.1, hk.2, h1, h2, h3, h4⟩
    · cases h
section
variable {T : Nat → St} {C : Int → Int → Int → Int × Int} {U : Int → Int → Int × Int × Int}
/-- the child of a triple: its parent, its word -/
theorem child_backT (t : Tree T C U) {zs c : List Int} {k : Int} (h : childAns C zs k = some c) :
    parentAns U c = some (zs, k) ∧ ∃ wo, wordAns U zs = some wo ∧ wordAns U c = some (wo ++ [k]) := by
  obtain ⟨m, n, hr, k0, k2, hp, hc, hpm, hz⟩ := childAns_some h
  obtain ⟨j, rfl⟩ : ∃ j : Nat, k = (j : Int) := ⟨k.toNat, by omega⟩
  obtain ⟨hu, h2⟩ := t.only j m n (by omega) hpm.toValid
  have hrc : rightP c = some ((C m n j).1, (C m n j).2) := by rw [hc]; exact right_sides hp
  refine ⟨?_, (riwL U m n).reverse, ?_, ?_⟩
  · rw [parentAns_yes hrc h2, hu, hz]
  · unfold wordAns; rw [hr]; rfl
  · unfold wordAns; rw [hrc]
    show some (riwL U (C m n j).1 (C m n j).2).reverse = _
    rw [t.riwL_step hp h2, hu]
    simp
/-- the parent of a triple: its child -/
theorem parent_backT (t : Tree T C U) {zs p : List Int} {k : Int} (h : parentAns U zs = some (p, k)) :
    childAns C p k = some zs ∧ ∃ m n a b, zs = sidesL m n ∧ p = sidesL a b ∧ Pair m n ∧ Pair a b ∧ a < m ∧ (U m n).1 = a ∧ (U m n).2.1 = b := by
  unfold parentAns at h
  cases hr : rightP zs with
  | none => rw [hr] at h; cases h
  | some q =>
    obtain ⟨m, n⟩ := q
    rw [hr] at h
    simp only [Option.bind_some] at h
    split at h
    · rename_i hm
      injection h with h
      injection h with h1 h2
      obtain ⟨hp, hz⟩ := right_some hr
      obtain ⟨u1, u2, u3⟩ := t.up m n hp hm
      obtain ⟨i1, i2⟩ := t.idx m n
      refine ⟨?_, m, n, _, _, hz, h1.symm, hp, u1, u3, rfl, rfl⟩
      rw [childAns_yes (m := (U m n).1) (n := (U m n).2.1) (by rw [← h1]; exact right_sides u1) (by rw [← h2]; unfold within; simp; omega), ← h2, u2]
      rw [tripAns_yes hp, hz]
    · cases h
theorem parentAns_isSome {zs : List Int} : (parentAns U zs).isSome = true ↔ ∃ m n, rightP zs = some (m, n) ∧ 2 < m := by
  unfold parentAns
  cases hr : rightP zs with
  | none => simp
  | some p =>
    obtain ⟨m, n⟩ := p
    simp only [Option.bind_some]
    split
    · rename_i hm; exact ⟨fun _ => ⟨m, n, rfl, hm⟩, fun _ => rfl⟩
    · rename_i hm; exact ⟨fun h => (by cases h), fun ⟨a, b, h1, h2⟩ => absurd h2 (by simp only [Option.some.injEq, Prod.mk.injEq] at h1; omega)⟩
end
theorem berg_z {m n : Int} (h : Pair m n) (hm : 2 < m) : (bergU m n).1 * (bergU m n).1 + (bergU m n).2.1 * (bergU m n).2.1 < m * m + n * n := by
  obtain ⟨h1, _, h3, h4⟩ := berg_up h hm
  have a1 := h1.h1
  have a2 := h1.h2
  have b1 := h.h1
  generalize (bergU m n).1 = a at *
  generalize (bergU m n).2.1 = b at *
  have e1 : a * a < m * m := by
    have := Int.mul_le_mul_of_nonneg_right (show a ≤ m by omega) (show 0 ≤ a by omega)
    have := Int.mul_lt_mul_of_pos_left (show a < m by omega) (show 0 < m by omega)
    omega
  have e2 : b * b ≤ n * n := Int.mul_le_mul h4 h4 (by omega) (by omega)
  omega
theorem price_z {m n : Int} (h : Pair m n) (hm : 2 < m) : (priceU m n).1 * (priceU m n).1 + (priceU m n).2.1 * (priceU m n).2.1 < m * m + n * n := by
  have hn1 := h.h1
  have hn2 := h.h2
  unfold priceU
  split
  · rename_i he
    obtain ⟨b, hb⟩ : ∃ b, n / 2 = b := ⟨_, rfl⟩
    have hn : n = 2 * b := by omega
    rw [hb]
    simp only
    have e : m * m + n * n - ((m - b) * (m - b) + b * b) = 2 * (m * b) + 2 * (b * b) := by subst hn; grind
    have p1 : 0 < m * b := Int.mul_pos (by omega) (by omega)
    have p2 : 0 < b * b := Int.mul_pos (by omega) (by omega)
    omega
  · rename_i he
    have h4 := h.h4
    obtain ⟨a, ha⟩ : ∃ b, m / 2 = b := ⟨_, rfl⟩
    have hm2 : m = 2 * a := by omega
    rw [ha]
    have p1 : 0 < a * a := Int.mul_pos (by omega) (by omega)
    have p2 : 0 < a * n := Int.mul_pos (by omega) (by omega)
    split
    · simp only
      have e : m * m + n * n - (a * a + (a - n) * (a - n)) = 2 * (a * a) + 2 * (a * n) := by subst hm2; grind
      omega
    · simp only
      have e : m * m + n * n - (a * a + (n - a) * (n - a)) = 2 * (a * a) + 2 * (a * n) := by subst hm2; grind
      omega
theorem five_root' {m n : Int} (h : Pair m n) : m * m + n * n = 5 ↔ m ≤ 2 := by
  have := five_root h
  by_cases hm : m ≤ 2
  · rw [decide_eq_true hm, beq_iff_eq] at this
    exact ⟨fun _ => hm, fun _ => this⟩
  · rw [decide_eq_false hm, beq_eq_false_iff_ne] at this
    exact ⟨fun h => absurd h this, fun h => absurd h hm⟩
theorem inner_pair {m n : Int} (_h : Pair m n) : n * (m - n) = (m * m - n * n + 2 * m * n - (m * m + n * n)) / 2 := by
  have e : m * m - n * n + 2 * m * n - (m * m + n * n) = 2 * (n * (m - n)) := by grind
  rw [e, Int.mul_ediv_cancel_left _ (by omega)]
theorem sides_bd {m n : Int} (h : Pair m n) : 1 ≤ m * m - n * n ∧ m * m - n * n ≤ 1000000000 ∧ 1 ≤ 2 * m * n ∧ 2 * m * n ≤ 1000000000 ∧ 1 ≤ m * m + n * n ∧ m * m + n * n ≤ 1000000000 ∧ (m * m - n * n) * (m * m - n * n) + (2 * m * n) * (2 * m * n) = (m * m + n * n) * (m * m + n * n) := by
  obtain ⟨p1, p2, p3, p4, p5, p6, p7⟩ := h.prods
  have h6 := h.h6
  have h1 := h.h1
  have h2 := h.h2
  have e : (m - n) * (m - n) = m * m + n * n - 2 * (m * n) := by grind
  have e2 : 0 ≤ (m - n) * (m - n) := Int.mul_nonneg (by omega) (by omega)
  exact ⟨by omega, by omega, by omega, by omega, by omega, by omega, by grind⟩
end Go.Proofs.Ytdahhcigphhfdac
