/- What is known of a descent of four squares that is told, as the law reads it. -/
import Derived.Test.YtofmmegpadojlaaCuV
namespace Go.Proofs.Ytofmmegpadojlaa
open Go.RowKit

theorem four_facts {p : Int} (h : primUp p 2000 = true) : 2 ≤ p ∧ p ≤ 2000 ∧ ∃ (a b m : Int) (rest : List (List Int)), (startAns p).getD [] = [a, b, 1, 0] ∧ (fourAns p).getD [] = [a, b, 1, 0, m] :: rest ∧
    (∀ s ∈ (fourAns p).getD [], ∃ t k, s = [t.a, t.b, t.c, t.d, k] ∧ Sq.D4 p t k ∧ 1 ≤ k) ∧
    (∀ i, i + 1 < ((fourAns p).getD []).length → at4 (((fourAns p).getD []).getD (i + 1) []) < at4 (((fourAns p).getD []).getD i [])) ∧
    (∀ i, i < ((fourAns p).getD []).length → (at4 (((fourAns p).getD []).getD i []) = 1 ↔ i + 1 = ((fourAns p).getD []).length)) := by
  obtain ⟨h1, h2, hpr⟩ := primUp_iff.1 h
  obtain ⟨n, rfl⟩ : ∃ n : Nat, p = (n : Int) := ⟨p.toNat, by omega⟩
  obtain ⟨a, b, m, hS, hD, hmp⟩ := startD4 (p := n) hpr (by omega)
  have hm1 : 1 ≤ (m : Int) := by
    have e : (a : Int) * a + b * b + 1 * 1 + 0 * 0 = m * n := hD.eq
    have g1 := Sq.sq0 (a : Int)
    have g2 := Sq.sq0 (b : Int)
    rcases Nat.eq_zero_or_pos m with h0 | h0
    · subst h0; simp at e; omega
    · omega
  have eS : (startAns (n : Int)).getD [] = [(a : Int), (b : Int), 1, 0] := by unfold startAns; rw [if_pos h]; exact hS
  have eF : (fourAns (n : Int)).getD [] = run4 n m ⟨a, b, 1, 0⟩ m := by unfold fourAns; rw [if_pos h]; exact fourL_is (by omega) hS hD
  obtain ⟨rest, hrest⟩ := run4_ne n m ⟨a, b, 1, 0⟩ m
  refine ⟨h2, by omega, a, b, m, rest, eS, eF.trans hrest, ?_⟩
  rw [eF]
  exact run4_good (by omega) (prim_dvd (p := n) hpr) m ⟨a, b, 1, 0⟩ m hD hm1 (Int.le_refl _)
end Go.Proofs.Ytofmmegpadojlaa
