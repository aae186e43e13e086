/- What is known of a descent of two squares that is told, as the law reads it. -/
import Derived.Test.YtofmmegpadojlaaCuV
import Derived.Test.YtofmmegpadojlaaSqCE
import Derived.Test.YtofmmegpadojlaaSqAA2
namespace Go.Proofs.Ytofmmegpadojlaa
open Go.RowKit

theorem rootOk_prim {p : Int} (h : primAns p = some true) : rootOk p = decide (p.tmod 4 ≠ 3) := by
  unfold primAns at h
  split at h
  · rename_i h0
    injection h with h
    have : primUp p 1000000 = true := by unfold primUp; rw [h]; simp; omega
    unfold rootOk; rw [this]; rfl
  · cases h
theorem sqMinus_some (p : Int) : (sqMinusAns p).isSome = rootOk p := by
  unfold sqMinusAns; cases rootOk p <;> rfl
theorem two_some (p : Int) : (twoAns p).isSome = rootOk p := by
  unfold twoAns; cases rootOk p <;> rfl
/-- greater and smaller one -/
def gtr (x y : Int) : Int := if x < y then y else x
def lss (x y : Int) : Int := if x < y then x else y
theorem two_facts {p : Int} (h : rootOk p = true) : 2 ≤ p ∧ p ≤ 1000000 ∧ ∃ (r m : Int) (rest : List (List Int)), (sqMinusAns p).getD 0 = r ∧ 0 ≤ r ∧ r < p ∧ (r * r + 1).tmod p = 0 ∧ (twoAns p).getD [] = [r, 1, m] :: rest ∧
    (∀ s ∈ (twoAns p).getD [], ∃ x y k, s = [x, y, k] ∧ Sq.D2 p x y k ∧ 1 ≤ k) ∧
    (∀ i, i + 1 < ((twoAns p).getD []).length → 2 * at2 (((twoAns p).getD []).getD (i + 1) []) ≤ at2 (((twoAns p).getD []).getD i [])) ∧
    (∀ i, i < ((twoAns p).getD []).length → (at2 (((twoAns p).getD []).getD i []) = 1 ↔ i + 1 = ((twoAns p).getD []).length)) ∧
    (∀ x y : Int, 0 ≤ x → 0 ≤ y → x * x + y * y = p → firstAns 2 1000000 p = some [gtr x y, lss x y] ∧ allAns 2 1000000 p = some [[gtr x y, lss x y]]) := by
  obtain ⟨n, rfl, hn, hpr, h3⟩ := rootOk_iff h
  have hn2 := hpr.1
  obtain ⟨m, e1, e2, hD, hmp⟩ := two_start hpr h3
  obtain ⟨r1, r2, r3⟩ := minusN_root hpr h3
  have eS : (sqMinusAns (n : Int)).getD 0 = ((Sq.minusN n : Nat) : Int) := by unfold sqMinusAns; rw [if_pos h]; rfl
  have eL : (twoAns (n : Int)).getD [] = run2 n m (Sq.minusN n : Nat) 1 m := by
    unfold twoAns; rw [if_pos h]; simp only [Option.getD_some, Int.toNat_natCast]; unfold twoL; rw [e2, Int.toNat_natCast]
  have hm1 : 1 ≤ (m : Int) := by
    have e := hD.eq
    have g1 := Sq.sq0 ((Sq.minusN n : Nat) : Int)
    rcases Nat.eq_zero_or_pos m with h0 | h0
    · subst h0; simp at e; omega
    · omega
  obtain ⟨rest, hrest⟩ := run2_ne n m (Sq.minusN n : Nat) 1 m
  obtain ⟨g1, g2, g3⟩ := run2_good (by omega) (prim_dvd (p := n) hpr) m (Sq.minusN n : Nat) 1 m hD hm1 (Int.le_refl _)
  refine ⟨by omega, by omega, (Sq.minusN n : Nat), m, rest, eS, by omega, by omega, ?_, eL.trans hrest, ?_⟩
  · have : ((Sq.minusN n : Nat) : Int) * ((Sq.minusN n : Nat) : Int) + 1 = m * n := e1
    rw [this, Int.mul_tmod_left]
  · rw [eL]
    refine ⟨g1, g2, g3, fun x y hx hy e => ?_⟩
    have hb : (0 : Int) ≤ n ∧ (n : Int) ≤ 1000000 := by omega
    have hone : Sq.sqL 2 n n = [[gtr x y, lss x y]] := by
      unfold gtr lss
      split
      · exact Sq.two_one hpr hy hx (by omega) (by omega)
      · exact Sq.two_one hpr hx hy e (by omega)
    unfold firstAns allAns
    rw [if_pos hb, if_pos hb, Int.toNat_natCast, hone]
    exact ⟨rfl, rfl⟩
end Go.Proofs.Ytofmmegpadojlaa
