/- Jumps lead to pairs of the same equation and back: arithmetic for the law of jumps. -/
import Derived.Test.YtdahhcigphhfdaaJuN
import Derived.Test.YtdahhcigphhfdaaJmA
import Derived.Test.YtdahhcigphhfdaaPrAB
import Derived.Test.YtdahhcigphhfdaaDet
namespace Go.Proofs.Ytdahhcigphhfdaa
open Go.RowKit

theorem juS_other {x y k c : Int} (h : juS x y k c = true) : juS (k * y - x) y k c = true ∧ juS y (k * y - x) k c = true := by
  simp only [juS, decide_eq_true_eq] at *
  constructor <;> grind
theorem juS_up {x y k c : Int} (h : juS x y k c = true) : juS (k * x - y) x k c = true := by
  simp only [juS, decide_eq_true_eq] at *
  grind
theorem juGd_mk {x y k c : Int} (h : jpN (x, y)) (h2 : juS x y k c = true) : juGd x y k c = true := by
  unfold juGd
  rw [juN_iff.2 h, h2]; rfl
theorem isj_yes {x y k c : Int} (hW : juW k c = true) (h : juGd x y k c = true) : isjAns x y k c = some true := by
  unfold isjAns; rw [if_pos hW, h]
/-- what the law asks behind a jump down -/
structure DnLaw (x y k c : Int) (q : Jp2) : Prop where
  w : 1 ≤ k ∧ k ≤ 1000
  n : jpN (x, y)
  m : jpN q
  is : isjAns q.1 q.2 k c = some true
  falls : q.1 + q.2 < x + y
  ways : (q.1 = y ∧ q.2 = k * y - x ∧ upAns8 q.1 q.2 k c = some (x, y)) ∨ (q.1 ≠ y ∧ q.2 = y ∧ q.2 < k * y - x)
theorem dn_law {x y k c : Int} {q : Jp2} (h : dnAns x y k c = some q) : DnLaw x y k c q := by
  unfold dnAns at h
  split at h
  · rename_i hB
    have hB2 := hB
    unfold juB at hB2
    simp only [Bool.and_eq_true] at hB2
    obtain ⟨hW, hG⟩ := hB2
    have hN := juGd_N hG
    have hq := dnJ_good hN h
    have hS : juS x y k c = true := by unfold juGd at hG; simp only [Bool.and_eq_true] at hG; exact hG.2
    have hW2 := juW_iff.1 hW
    obtain ⟨n1, n2, n3⟩ := hN
    simp only at n1 n2 n3
    unfold dnJ at h
    simp only at h
    split at h
    · rename_i hz
      injection h with h
      subst h
      by_cases hlt : k * y - x < y
      · rw [if_pos hlt] at hq ⊢
        refine ⟨⟨hW2.1, hW2.2.1⟩, ⟨n1, n2, n3⟩, hq.1, isj_yes hW (juGd_mk hq.1 (juS_other hS).2), hq.2, .inl ⟨rfl, rfl, ?_⟩⟩
        unfold upAns8
        rw [if_pos (juB_mk hW (juGd_mk hq.1 (juS_other hS).2))]
        unfold upJ
        simp only
        have e : k * y - (k * y - x) = x := by omega
        rw [e, if_pos ⟨n2, n3⟩]
      · rw [if_neg hlt] at hq ⊢
        refine ⟨⟨hW2.1, hW2.2.1⟩, ⟨n1, n2, n3⟩, hq.1, isj_yes hW (juGd_mk hq.1 (juS_other hS).1), hq.2, ?_⟩
        by_cases he : k * y - x = y
        · refine .inl ⟨he, he.symm, ?_⟩
          unfold upAns8
          rw [if_pos (juB_mk hW (juGd_mk hq.1 (juS_other hS).1))]
          unfold upJ
          simp only
          have e : k * (k * y - x) - y = x := by rw [he]; omega
          rw [e, if_pos ⟨by omega, n3⟩, he]
        · exact .inr ⟨he, rfl, by simp only; omega⟩
    · cases h
  · cases h
/-- what the law asks behind a jump up -/
structure UpLaw (z w m d : Int) (p : Jp2) : Prop where
  k : 1 ≤ m ∧ m ≤ 1000
  n : jpN (z, w)
  g : jpN p
  is : isjAns p.1 p.2 m d = some true
  snd : p.2 = z
  fst : p.1 = m * z - w
  back : w < p.1 → dnAns p.1 p.2 m d = some (z, w)
theorem up_law {z w m d : Int} {p : Jp2} (h : upAns8 z w m d = some p) : UpLaw z w m d p := by
  unfold upAns8 at h
  split at h
  · rename_i hB
    have hB2 := hB
    unfold juB at hB2
    simp only [Bool.and_eq_true] at hB2
    obtain ⟨hW, hG⟩ := hB2
    have hN := juGd_N hG
    have hp := upJ_good hN h
    have hS : juS z w m d = true := by unfold juGd at hG; simp only [Bool.and_eq_true] at hG; exact hG.2
    have hW2 := juW_iff.1 hW
    obtain ⟨n1, n2, n3⟩ := hN
    simp only at n1 n2 n3
    unfold upJ at h
    simp only at h
    split at h
    · injection h with h
      subst h
      refine ⟨⟨hW2.1, hW2.2.1⟩, ⟨n1, n2, n3⟩, hp, isj_yes hW (juGd_mk hp (juS_up hS)), rfl, rfl, fun hlt => ?_⟩
      unfold dnAns
      rw [if_pos (juB_mk hW (juGd_mk hp (juS_up hS)))]
      unfold dnJ
      simp only at hlt ⊢
      have e : m * z - (m * z - w) = w := by omega
      rw [e, if_pos ⟨n1, hlt⟩]
      by_cases h2 : w < z
      · rw [if_pos h2]
      · rw [if_neg h2, show w = z by omega]
    · cases h
  · cases h
theorem wrap64_id {z : Int} (h : -9223372036854775808 ≤ z ∧ z ≤ 9223372036854775807) : wrap64 z = z := IntWalk.wrap64_in _ (by omega)
theorem goodM_jm {M m : Int} (h : 1 ≤ m ∧ m ≤ M) (hM : 1 ≤ M) : goodM M (jmL m) = true := by
  have h1 : within (-M) M m = true := within_yes (by omega) (by omega)
  have h2 : within (-M) M (-1) = true := within_yes (by omega) (by omega)
  have h3 : within (-M) M 1 = true := within_yes (by omega) (by omega)
  have h4 : within (-M) M 0 = true := within_yes (by omega) (by omega)
  simp [goodM, rowGood, jmL, h1, h2, h3, h4]
theorem apply_jm {z w m : Int} (hm : 1 ≤ m ∧ m ≤ 1000) (hN : jpN (z, w)) (hp : jpN (m * z - w, z)) : applyAns (jmL m) [z, w] = some [m * z - w, z] := by
  obtain ⟨n1, n2, n3⟩ := hN
  obtain ⟨p1, p2, p3⟩ := hp
  simp only at n1 n2 n3 p1 p2 p3
  obtain ⟨q, hq⟩ : ∃ q, m * z = q := ⟨_, rfl⟩
  rw [hq] at p2 p3 ⊢
  have e1 : wrap64 (m * z) = q := by rw [hq]; exact wrap64_id (by omega)
  have e2 : wrap64 (-w) = -w := wrap64_id (by omega)
  have e3 : wrap64 z = z := wrap64_id (by omega)
  have e4 : wrap64 (q - w) = q - w := wrap64_id (by omega)
  have e5 : wrap64 q = q := wrap64_id (by omega)
  have e0 : wrap64 0 = 0 := wrap64_id (by omega)
  have ha : applyW (jmL m) [z, w] = [q - w, z] := by
    simp [applyW, jmL, dotW, wsum, e1, e2, e3, e5, e0, Int.neg_mul]
    rw [show q + -w = q - w by omega]; exact e4
  unfold applyAns
  rw [ha]
  have h1 : within (-1000000) 1000000 z = true := within_yes (by omega) (by omega)
  have h2 : within (-1000000) 1000000 w = true := within_yes (by omega) (by omega)
  have h3 : within (-1000000) 1000000 (q - w) = true := within_yes (by omega) (by omega)
  have h4 := goodM_jm (M := 1000000) (m := m) ⟨hm.1, by omega⟩ (by omega)
  rw [if_pos]
  simp [matVec, vecOK, h1, h2, h3, h4, jmL] at *
theorem det_jm {i : Int} (h : 1 ≤ i ∧ i ≤ 1000) : detAns (jmL i) = some 1 := by
  unfold detAns
  rw [whenGood_yes (goodM_jm (M := 1000) h (by omega))]
  have e0 : wrap64 0 = 0 := wrap64_id (by omega)
  have e1 : wrap64 1 = 1 := wrap64_id (by omega)
  have e2 : wrap64 (-1) = -1 := wrap64_id (by omega)
  simp [jmL, det, wsum, minorM, mk, ent, skip, sgn, e0, e1, List.range, List.range.loop]
end Go.Proofs.Ytdahhcigphhfdaa
