/- Runs of pairs, down and up: facts for the law of runs. -/
import Derived.Test.YtdahhcigphhfdaaJlA
import Derived.Test.YtdahhcigphhfdaaJqC
import Derived.Test.YtdahhcigphhfdaaJuO
import Derived.Test.YtdahhcigphhfdaaJuPS
namespace Go.Proofs.Ytdahhcigphhfdaa
open Go.RowKit

theorem isj_B {x y k c : Int} (h : isjAns x y k c = some true) : juB x y k c = true := by
  unfold isjAns at h
  split at h
  · rename_i hW
    injection h with h
    exact juB_mk hW h
  · cases h
theorem dn_B {x y k c : Int} {q : Jp2} (hB : juB x y k c = true) (h : dnJ k (x, y) = some q) : dnAns x y k c = some q := by unfold dnAns; rw [if_pos hB, h]
theorem up_B {x y k c : Int} {q : Jp2} (hB : juB x y k c = true) (h : upJ k (x, y) = some q) : upAns8 x y k c = some q := by unfold upAns8; rw [if_pos hB, h]
theorem juB_jpN {x y k c : Int} (h : juB x y k c = true) : jpN (x, y) := by
  unfold juB at h; simp only [Bool.and_eq_true] at h; exact juGd_N h.2
theorem least_end (k : Int) : ∀ (n : Nat) (p : Jp2), jpN p → (p.1 + p.2).toNat ≤ n → dnJ k (leastJ k n p) = none
  | 0, p, hp, hn => by
    obtain ⟨x, y⟩ := p
    obtain ⟨h1, h2, h3⟩ := hp
    simp only at h1 h2 h3 hn
    have ex : x = 0 := by omega
    have ey : y = 0 := by omega
    subst ex; subst ey
    simp [leastJ, dnJ]
  | n + 1, p, hp, hn => by
    cases h : dnJ k p with
    | none => rw [leastJ_none h]; exact h
    | some q =>
      rw [leastJ_some h]
      have hg := dnJ_good hp h
      have h0 := hg.1.1
      have h1 := hg.1.2.1
      exact least_end k n q hg.1 (by omega)
/-- a run down, as the law reads it -/
structure RunLaw (x y k c : Int) (R : Jp2) (L : List Jp2) : Prop where
  pos : 0 < L.length
  short : L.length ≤ 1000
  first : atJ L 0 = (x, y)
  last : atJ L (L.length - 1) = R
  next : ∀ i, i + 1 < L.length → dnAns (atJ L i).1 (atJ L i).2 k c = some (atJ L (i + 1))
theorem desc_law {x y k c : Int} {M : List (List Int)} (h : descAns x y k c = some M) :
    ∃ L : List Jp2, M = L.map jpL ∧ RunLaw x y k c (leastOf k (x, y)) L ∧ juB x y k c = true := by
  unfold descAns at h
  split at h
  · rename_i hB
    unfold toldJ at h
    split at h
    · rename_i hl
      injection h with h
      have hpos : 0 < (dnRun k (x, y)).length := runJ_pos _ _ _
      have hP : ∀ i, i < (dnRun k (x, y)).length → juB (atJ (dnRun k (x, y)) i).1 (atJ (dnRun k (x, y)) i).2 k c = true ∧ LeftJ k (leastOf k (x, y)) (atJ (dnRun k (x, y)) i) :=
        runJ_all (P := fun p => juB p.1 p.2 k c = true ∧ LeftJ k (leastOf k (x, y)) p) (fun p q hp e => ⟨isj_B (dn_law (dn_B hp.1 e)).is, hp.2.step (juB_jpN hp.1) e⟩) 1001 (x, y) ⟨hB, LeftJ.start k (x, y)⟩
      refine ⟨dnRun k (x, y), h.symm, ⟨hpos, hl, ?_, ?_, fun i hi => ?_⟩, hB⟩
      · show (runJ (dnJ k) (1000 + 1) (x, y)).getD 0 (0, 0) = (x, y)
        rw [runJ.eq_2]
        rfl
      · have h1 : dnJ k (atJ (dnRun k (x, y)) ((dnRun k (x, y)).length - 1)) = none := runJ_last (dnJ k) 1001 (x, y) (show (dnRun k (x, y)).length < 1001 by omega)
        exact ((hP _ (by omega)).2.done h1).symm
      · exact dn_B (hP i (by omega)).1 (runJ_next (dnJ k) 1001 (x, y) i hi)
    · cases h
  · cases h
theorem least_law {x y k c : Int} (hB : juB x y k c = true) : dnAns (leastOf k (x, y)).1 (leastOf k (x, y)).2 k c = none := by
  unfold dnAns
  split
  · exact least_end k _ (x, y) (juB_jpN hB) (Nat.le_refl _)
  · rfl
/-- a run up, as the law reads it -/
structure UpsLaw (k c s : Int) (L : List Jp2) : Prop where
  len : (L.length : Int) = s + 1
  few : 0 ≤ s ∧ s ≤ 40
  next : ∀ i, i + 1 < L.length → upAns8 (atJ L i).1 (atJ L i).2 k c = some (atJ L (i + 1))
theorem asc_law {x y k c s : Int} {M : List (List Int)} (h : ascAns x y k c s = some M) : ∃ L : List Jp2, M = L.map jpL ∧ UpsLaw k c s L := by
  unfold ascAns at h
  split at h
  · rename_i hh
    obtain ⟨hB, s1, s2, hl⟩ := hh
    injection h with h
    have hle : (upRun k (s.toNat + 1) (x, y)).length ≤ s.toNat + 1 := runJ_len _ _ _
    have hP : ∀ i, i < (upRun k (s.toNat + 1) (x, y)).length → juB (atJ (upRun k (s.toNat + 1) (x, y)) i).1 (atJ (upRun k (s.toNat + 1) (x, y)) i).2 k c = true :=
      runJ_all (P := fun p => juB p.1 p.2 k c = true) (fun p q hp e => isj_B (up_law (up_B hp e)).is) (s.toNat + 1) (x, y) hB
    refine ⟨upRun k (s.toNat + 1) (x, y), h.symm, ⟨by omega, ⟨s1, s2⟩, fun i hi => ?_⟩⟩
    exact up_B (hP i (by omega)) (runJ_next (upJ k) _ (x, y) i hi)
  · cases h
end Go.Proofs.Ytdahhcigphhfdaa
