/- Told pairs, their least pairs, and the factors for one more: facts for the law of classes. -/
import Derived.Test.YtdahhcigphhfdaaJlB
import Derived.Test.YtdahhcigphhfdaaJg
import Derived.Test.YtdahhcigphhfdaaJkAC
namespace Go.Proofs.Ytdahhcigphhfdaa
open Go.RowKit

theorem mem_rowJ {x n y : Nat} (h : y < n) : ((x : Int), (y : Int)) ∈ rowJ x n := by
  unfold rowJ
  exact List.mem_map.2 ⟨y, List.mem_range.2 h, rfl⟩
theorem mem_gridJ {n : Nat} {p : Jp2} (h0 : 0 ≤ p.2) (h1 : p.2 ≤ p.1) (h2 : p.1 < n) : p ∈ gridJ n := by
  obtain ⟨x, y⟩ := p
  simp only at h0 h1 h2
  obtain ⟨a, rfl⟩ : ∃ a : Nat, x = (a : Int) := ⟨x.toNat, by omega⟩
  obtain ⟨b, rfl⟩ : ∃ b : Nat, y = (b : Int) := ⟨y.toNat, by omega⟩
  unfold gridJ
  exact List.mem_flatMap.2 ⟨a, List.mem_range.2 (by omega), mem_rowJ (by omega)⟩
/-- the order of pairs -/
def LtJ (p q : Jp2) : Prop := p.1 < q.1 ∨ (p.1 = q.1 ∧ p.2 < q.2)
theorem rowJ_sorted (x n : Nat) : (rowJ x n).Pairwise LtJ := by
  unfold rowJ
  rw [List.pairwise_map]
  exact List.pairwise_lt_range.imp fun {a b} h => .inr ⟨rfl, by simp only; omega⟩
theorem gridJ_sorted : ∀ n, (gridJ n).Pairwise LtJ
  | 0 => by simp [gridJ]
  | n + 1 => by
    rw [gridJ_succ, List.pairwise_append]
    refine ⟨gridJ_sorted n, rowJ_sorted n (n + 1), fun p hp q hq => .inl ?_⟩
    have h1 := (gridJ_mem hp).2.2
    unfold rowJ at hq
    obtain ⟨y, _, rfl⟩ := List.mem_map.1 hq
    simp only; omega
theorem atJ_mem {L : List Jp2} {i : Nat} (h : i < L.length) : atJ L i ∈ L := by
  unfold atJ
  rw [List.getD_eq_getElem?_getD, List.getElem?_eq_getElem h]
  exact List.getElem_mem h
theorem atJ_lt {L : List Jp2} (hs : L.Pairwise LtJ) {i : Nat} (h : i + 1 < L.length) : LtJ (atJ L i) (atJ L (i + 1)) := by
  have h1 := List.pairwise_iff_getElem.1 hs i (i + 1) (by omega) h (Nat.lt_succ_self i)
  unfold atJ
  rw [List.getD_eq_getElem?_getD, List.getElem?_eq_getElem (by omega), List.getD_eq_getElem?_getD, List.getElem?_eq_getElem h]
  exact h1
theorem least_keeps {k c : Int} : ∀ (n : Nat) (p : Jp2), juB p.1 p.2 k c = true → juB (leastJ k n p).1 (leastJ k n p).2 k c = true ∧ (leastJ k n p).1 ≤ p.1
  | 0, p, h => ⟨h, Int.le_refl _⟩
  | n + 1, p, h => by
    cases e : dnJ k p with
    | none => rw [leastJ_none e]; exact ⟨h, Int.le_refl _⟩
    | some q =>
      rw [leastJ_some e]
      have hq : juB q.1 q.2 k c = true := isj_B (dn_law (dn_B h e)).is
      have h1 := least_keeps n q hq
      refine ⟨h1.1, Int.le_trans h1.2 ?_⟩
      have hp := juB_jpN h
      obtain ⟨x, y⟩ := p
      obtain ⟨n1, n2, n3⟩ := hp
      simp only at n1 n2 n3
      unfold dnJ at e
      simp only at e
      split at e
      · rename_i hz
        injection e with e
        subst e
        simp only
        split
        · exact n2
        · omega
      · cases e
/-- what the law of classes reads of told pairs and told least pairs -/
structure ClsLaw (k c m : Int) (L C : List Jp2) : Prop where
  each : ∀ i, i < L.length → juB (atJ L i).1 (atJ L i).2 k c = true ∧ (atJ L i).1 ≤ m
  down : ∀ i, i < L.length → leastOf k (atJ L i) ∈ C
  before : ∀ i, i + 1 < L.length → LtJ (atJ L i) (atJ L (i + 1))
  short : L.length ≤ 1000 ∧ C.length ≤ 1000
theorem cls_law {k c m : Int} {M : List (List Int)} (h : puAns k c m = some M) : ∃ L C : List Jp2, M = L.map jpL ∧ clAns k c m = some (C.map jpL) ∧ ClsLaw k c m L C := by
  unfold puAns at h
  split at h
  · rename_i hok
    unfold toldJ at h
    split at h
    · rename_i hl
      injection h with h
      obtain ⟨hW, m0, m1⟩ := puOk_iff.1 hok
      have hle : ((gridJ (m.toNat + 1)).filter fun p => goodP k c p && leastP k p).length ≤ ((gridJ (m.toNat + 1)).filter (goodP k c)).length := by
        rw [show (fun p => goodP k c p && leastP k p) = (fun p => leastP k p && goodP k c p) from funext fun p => Bool.and_comm _ _, ← List.filter_filter]
        exact List.length_filter_le _ _
      have hB : ∀ p ∈ (gridJ (m.toNat + 1)).filter (goodP k c), juB p.1 p.2 k c = true ∧ p.1 ≤ m := fun p hp => by
        obtain ⟨h1, h2⟩ := List.mem_filter.1 hp
        have h3 := (gridJ_mem h1).2.2
        exact ⟨juB_mk hW h2, by omega⟩
      refine ⟨_, (gridJ (m.toNat + 1)).filter fun p => goodP k c p && leastP k p, h.symm, ?_, ⟨fun i hi => hB _ (atJ_mem hi), fun i hi => ?_, fun i hi => atJ_lt ((gridJ_sorted _).filter _) hi, ⟨hl, by omega⟩⟩⟩
      · unfold clAns
        rw [if_pos hok]
        unfold toldJ
        rw [if_pos (by omega)]
      · obtain ⟨h1, h2⟩ := hB _ (atJ_mem hi)
        obtain ⟨h3, h4⟩ := least_keeps ((atJ _ i).1 + (atJ _ i).2).toNat (atJ ((gridJ (m.toNat + 1)).filter (goodP k c)) i) h1
        have h5 := juB_jpN h3
        refine List.mem_filter.2 ⟨mem_gridJ h5.1 h5.2.1 (by have := h4; unfold leastOf; omega), ?_⟩
        rw [Bool.and_eq_true]
        refine ⟨?_, ?_⟩
        · unfold juB at h3
          simp only [Bool.and_eq_true] at h3
          exact h3.2
        · unfold leastP
          rw [show dnJ k (leastOf k (atJ ((gridJ (m.toNat + 1)).filter (goodP k c)) i)) = none from least_end k _ _ (juB_jpN h1) (Nat.le_refl _)]
          rfl
    · cases h
  · cases h
theorem kOf_B {x y e n : Int} (h : kOf x y e = some n) : juB x y n e = true := by
  unfold kOf at h
  split at h
  · rename_i hh
    obtain ⟨h1, hN, c1, c2, h0, k1, k2⟩ := hh
    injection h with h
    subst h
    have hd := (dvd_tdiv (x * x + y * y + e) (x * y)).1 h0
    refine juB_mk (juW_iff.2 ⟨k1, k2, c1, c2⟩) ?_
    unfold juGd
    rw [hN]
    simp only [Bool.true_and, juS, decide_eq_true_eq]
    rw [Int.mul_assoc]; exact hd.symm
  · cases h
/-- x x + y y + 1 is a multiple of x y only for 3 -/
theorem only_three : ∀ (n : Nat) (x y k : Int), 1 ≤ y → y ≤ x → (x + y).toNat ≤ n → x * x + y * y + 1 = k * x * y → k = 3
  | 0, x, y, k, h1, h2, hn, _ => by omega
  | n + 1, x, y, k, h1, h2, hn, e => by
    by_cases hxy : x = y
    · subst hxy
      have e2 : x * x * (k - 2) = 1 := by grind
      have h3 : x * x = 1 := by
        have hp : 0 < x * x := Int.mul_pos (by omega) (by omega)
        have hd : x * x ∣ 1 := ⟨k - 2, e2.symm⟩
        have := Int.le_of_dvd (by omega) hd
        omega
      rw [h3] at e2
      omega
    · have hlt : y < x := by omega
      obtain ⟨z, hz⟩ : ∃ z, k * y - x = z := ⟨_, rfl⟩
      have hxz : x * z = y * y + 1 := by rw [← hz]; grind
      have hz1 : 1 ≤ z := by
        rcases Int.lt_or_le 0 z with h | h
        · omega
        · have : x * z ≤ 0 := Int.mul_nonpos_of_nonneg_of_nonpos (by omega) h
          have : 0 ≤ y * y := Int.mul_nonneg (by omega) (by omega)
          omega
      have hzy : z ≤ y := by
        rcases Int.lt_or_le y z with h | h
        · have h5 : (y + 1) * (y + 1) ≤ x * z := Int.mul_le_mul (by omega) (by omega) (by omega) (by omega)
          have h6 : (y + 1) * (y + 1) = y * y + 2 * y + 1 := by grind
          omega
        · exact h
      refine only_three n y z k hz1 hzy (by omega) ?_
      grind
theorem ks_three {m : Int} {M : List Int} (h : ksAns 1 m = some M) : ∀ n ∈ M, n = 3 := by
  unfold ksAns at h
  split at h
  · injection h with h
    subst h
    intro n hn
    rw [ksSet_mem] at hn
    unfold ksL at hn
    obtain ⟨p, _, hp⟩ := List.mem_filterMap.1 hn
    have hB := kOf_B hp
    have hy : 1 ≤ p.2 := by
      unfold kOf at hp
      split at hp
      · rename_i hh; exact hh.1
      · cases hp
    unfold juB juGd at hB
    simp only [Bool.and_eq_true] at hB
    have hN := juN_iff.1 hB.2.1
    have hS := hB.2.2
    simp only [juS, decide_eq_true_eq] at hS
    exact only_three _ p.1 p.2 n hy hN.2.1 (Nat.le_refl _) hS
  · cases h
end Go.Proofs.Ytdahhcigphhfdaa
