/- Roots with an outer circle: which they are, their order, how many there are (arithmetic). -/
import Derived.Test.YtoaopmafokoaoabQdR
import Derived.Test.YtoaopmafokoaoabQdOPL
import Derived.Test.YtoaopmafokoaoabQdX
import Derived.Test.YtoaopmafokoaoabQdAr
namespace Go.Proofs.Ytoaopmafokoaoab
open Go.RowKit

def RQ (n b c d : Int) : Prop := apB [-n, b, c, d] = true ∧ lastQ [-n, b, c, d] = true ∧ gcdL [-n, b, c, d] = 1
def RB (n b c d : Int) : Bool := apB [-n, b, c, d] && lastQ [-n, b, c, d] && decide (gcdL [-n, b, c, d] = 1)
theorem RB_iff (n b c d : Int) : RB n b c d = true ↔ RQ n b c d := by
  unfold RB RQ
  rw [Bool.and_eq_true, Bool.and_eq_true, decide_eq_true_eq, and_assoc]
theorem rootN_sq (k : Nat) : rootN (k * k) = k := by
  have h := rootN_spec (k * k)
  obtain ⟨h1, h2⟩ := h
  rcases Nat.lt_trichotomy (rootN (k * k)) k with h3 | h3 | h3
  · have : (rootN (k * k) + 1) * (rootN (k * k) + 1) ≤ k * k := Nat.mul_le_mul h3 h3
    omega
  · exact h3
  · have : (k + 1) * (k + 1) ≤ rootN (k * k) * rootN (k * k) := Nat.mul_le_mul h3 h3
    have e : (k + 1) * (k + 1) = k * k + 2 * k + 1 := by grind
    omega
theorem rootZ_mul {h : Int} (h0 : 0 ≤ h) : rootZ (h * h) = h := by
  obtain ⟨k, rfl⟩ : ∃ k : Nat, h = k := ⟨h.toNat, by omega⟩
  unfold rootZ
  rw [← Int.natCast_mul, Int.toNat_natCast, rootN_sq]
theorem rootsC_in {n b : Int} (hb : n < b) : ∀ (k : Nat) (c0 c : Int) (q : List Int), c0 ≤ c → c - c0 < k → 4 * c * (b - n) ≤ (b + n) * (b + n) → q ∈ rootAt n b c → q ∈ rootsC n b k c0 := by
  intro k
  induction k with
  | zero => intro c0 c q h1 h2; omega
  | succ k ih =>
    intro c0 c q h1 h2 h3 h4
    rw [rootsC_step _ _ _ _ (by
      apply Decidable.byContradiction
      intro hn
      exact bound_mono hb h1 hn h3)]
    by_cases e : c0 = c
    · subst e; exact List.mem_append.2 (.inl h4)
    · exact List.mem_append.2 (.inr (ih (c0 + 1) c q (by omega) (by omega) h3 h4))
theorem rootsC_out {n b : Int} : ∀ (k : Nat) (c0 : Int) (q : List Int), q ∈ rootsC n b k c0 → ∃ c, c0 ≤ c ∧ 4 * c * (b - n) ≤ (b + n) * (b + n) ∧ q ∈ rootAt n b c := by
  intro k
  induction k with
  | zero => intro c0 q h; simp [rootsC] at h
  | succ k ih =>
    intro c0 q h
    by_cases hb : 4 * c0 * (b - n) ≤ (b + n) * (b + n)
    · rw [rootsC_step _ _ _ _ hb] at h
      rcases List.mem_append.1 h with h | h
      · exact ⟨c0, Int.le_refl _, hb, h⟩
      · obtain ⟨c, h1, h2, h3⟩ := ih _ _ h
        exact ⟨c, by omega, h2, h3⟩
    · rw [rootsC_stop _ _ _ _ hb] at h
      simp at h
theorem rootAt_out {n b c : Int} {q : List Int} (h : q ∈ rootAt n b c) : q = triedQ n b c (rootZ (b * c - n * (b + c))) ∧ apB q = true ∧ gcdL q = 1 := by
  unfold rootAt at h
  split at h
  · rename_i hc
    rw [List.mem_singleton] at h
    subst h
    exact ⟨rfl, hc.1, hc.2⟩
  · simp at h
/-- what is told is a root, in order -/
theorem rootsN_out {n : Int} (hn : 1 ≤ n) {q : List Int} (h : q ∈ rootsN n) : ∃ b c d, q = [-n, b, c, d] ∧ RQ n b c d ∧ n < b ∧ b ≤ c ∧ c ≤ d ∧ sortQ q = q := by
  unfold rootsN rootsTo at h
  obtain ⟨j, hj, h⟩ := List.mem_flatMap.1 h
  obtain ⟨c, h1, h2, h3⟩ := rootsC_out _ _ _ h
  obtain ⟨e, hg, h4⟩ := rootAt_out h3
  obtain ⟨g1, g2, g3⟩ := tried_good (n := n) (b := n + 1 + (j : Int)) (c := c) hn (by omega) h1 h2 (by rw [← e]; exact hg)
  have h0 := rootZ_nn ((n + 1 + (j : Int)) * c - n * (n + 1 + (j : Int) + c))
  have hle := half_le (n := n) (b := n + 1 + (j : Int)) (by omega) h0 (Int.le_of_eq g1) ((bound_eq _ _ _).1 h2)
  obtain ⟨x, hx⟩ : ∃ x, rootZ ((n + 1 + (j : Int)) * c - n * (n + 1 + (j : Int) + c)) = x := ⟨_, rfl⟩
  rw [hx] at e g2 g3 hle
  refine ⟨n + 1 + (j : Int), c, n + 1 + (j : Int) + c - n - 2 * x, e, ⟨by rw [e] at hg; exact hg, g2, by rw [e] at h4; exact h4⟩, by omega, h1, by omega, by rw [e]; exact g3⟩
/-- every root is told -/
theorem rootsN_in {n b c d : Int} (hn : 1 ≤ n ∧ n ≤ 30) (hbc : b ≤ c) (hcd : c ≤ d) (h : RQ n b c d) : [-n, b, c, d] ∈ rootsN n := by
  obtain ⟨h1, h2, h3⟩ := h
  have hq := (apB_iff _ _ _ _).1 h1
  have hp := hq.pair
  have he := hq.he
  obtain ⟨e0, e1, e2, e3⟩ := swN4 (-n) b c d
  have hd : d ≤ b + c - n := by
    have hm := gTo_max [-n, b, c, d] 4 3 (by omega)
    have hg := gIx_lt h1
    have hg' : gTo [-n, b, c, d] 4 = gIx [-n, b, c, d] := rfl
    rw [hg'] at hm
    unfold lastQ at h2
    have h2 := of_decide_eq_true h2
    have h4 : gIx [-n, b, c, d] = 0 ∨ gIx [-n, b, c, d] = 1 ∨ gIx [-n, b, c, d] = 2 ∨ gIx [-n, b, c, d] = 3 := by omega
    rcases h4 with h4 | h4 | h4 | h4 <;> rw [h4] at hm h2 <;> simp at hm h2 <;> omega
  have hsq : (b + c - n - d) * (b + c - n - d) = 4 * (b * c - n * (b + c)) := by grind
  obtain ⟨h, hh⟩ : ∃ h, b + c - n - d = 2 * h := by
    have : (b + c - n - d) % 2 = 0 := by
      rcases (show (b + c - n - d) % 2 = 0 ∨ (b + c - n - d) % 2 = 1 by omega) with h5 | h5
      · exact h5
      · exfalso
        obtain ⟨m, hm⟩ : ∃ m, b + c - n - d = 2 * m + 1 := ⟨(b + c - n - d) / 2, by omega⟩
        rw [hm] at hsq
        have : (2 * m + 1) * (2 * m + 1) = 4 * (m * m + m) + 1 := by grind
        omega
    exact ⟨(b + c - n - d) / 2, by omega⟩
  have hX : b * c - n * (b + c) = h * h := by
    rw [hh] at hsq
    have : (2 * h) * (2 * h) = 4 * (h * h) := by grind
    omega
  have hh0 : 0 ≤ h := by omega
  have hXn := sq_nn h
  have hbn : n < b := by
    rcases Int.lt_or_le n b with h5 | h5
    · exact h5
    · exfalso
      have : b = n := by omega
      subst this
      have e5 : b * c - b * (b + c) = -(b * b) := by grind
      have := Int.mul_pos (show 0 < b by omega) (show 0 < b by omega)
      omega
  have h2h : 2 * h ≤ b - n := by omega
  have hbd : 4 * c * (b - n) ≤ (b + n) * (b + n) := by
    rw [bound_eq, hX]
    have h5 : (2 * h) * (2 * h) ≤ (b - n) * (b - n) := Int.mul_le_mul h2h h2h (by omega) (by omega)
    have h6 : (2 * h) * (2 * h) = 4 * (h * h) := by grind
    omega
  have hb3 : b < 3 * n := by
    apply Decidable.byContradiction
    intro h5
    have h6 : 4 * b * (b - n) ≤ 4 * c * (b - n) := Int.mul_le_mul_of_nonneg_right (by omega) (by omega)
    have h7 : (b - 3 * n) * (3 * b + 3 * n) ≥ 0 := Int.mul_nonneg (by omega) (by omega)
    have h8 : 4 * b * (b - n) - (b + n) * (b + n) = (b - 3 * n) * (3 * b + 3 * n) + 8 * (n * n) := by grind
    have h9 := Int.mul_pos (show 0 < n by omega) (show 0 < n by omega)
    omega
  have hc := tried_bd hn ⟨hbn, by omega⟩ hbc hbd
  have e : triedQ n b c (rootZ (b * c - n * (b + c))) = [-n, b, c, d] := by
    rw [hX, rootZ_mul hh0]
    unfold triedQ
    rw [show b + c - n - 2 * h = d by omega]
  unfold rootsN rootsTo
  refine List.mem_flatMap.2 ⟨(b - n - 1).toNat, List.mem_range.2 (by omega), ?_⟩
  rw [show n + 1 + ((b - n - 1).toNat : Int) = b by omega]
  refine rootsC_in hbn 4000 b c _ hbc (by omega) hbd ?_
  unfold rootAt
  rw [e, if_pos ⟨h1, h3⟩]
  exact List.mem_singleton.2 rfl
/-- before in the order of the second and the third number -/
def LexQ (p q : List Int) : Prop := p.getD 1 0 < q.getD 1 0 ∨ (p.getD 1 0 = q.getD 1 0 ∧ p.getD 2 0 < q.getD 2 0)
theorem rootAt_b {n b c : Int} {q : List Int} (h : q ∈ rootAt n b c) : q.getD 1 0 = b ∧ q.getD 2 0 = c := by
  obtain ⟨e, _⟩ := rootAt_out h
  subst e
  exact ⟨rfl, rfl⟩
theorem rootsC_sorted (n b : Int) : ∀ (k : Nat) (c0 : Int), (rootsC n b k c0).Pairwise LexQ := by
  intro k
  induction k with
  | zero => intro c0; exact List.Pairwise.nil
  | succ k ih =>
    intro c0
    by_cases hb : 4 * c0 * (b - n) ≤ (b + n) * (b + n)
    · rw [rootsC_step _ _ _ _ hb, List.pairwise_append]
      refine ⟨?_, ih _, fun p hp q hq => ?_⟩
      · unfold rootAt
        split
        · exact List.pairwise_singleton _ _
        · exact List.Pairwise.nil
      · obtain ⟨p1, p2⟩ := rootAt_b hp
        obtain ⟨c, h1, _, h3⟩ := rootsC_out _ _ _ hq
        obtain ⟨q1, q2⟩ := rootAt_b h3
        exact .inr ⟨by omega, by omega⟩
    · rw [rootsC_stop _ _ _ _ hb]; exact List.Pairwise.nil
theorem rootsN_sorted (n : Int) : (rootsN n).Pairwise LexQ := by
  unfold rootsN rootsTo
  rw [List.pairwise_flatMap]
  refine ⟨fun x _ => rootsC_sorted _ _ _ _, ?_⟩
  refine List.Pairwise.imp (R := fun x y : Nat => x < y) ?_ (List.pairwise_lt_range)
  intro x y hxy p hp q hq
  obtain ⟨c1, _, _, h1⟩ := rootsC_out _ _ _ hp
  obtain ⟨c2, _, _, h2⟩ := rootsC_out _ _ _ hq
  have e1 := (rootAt_b h1).1
  have e2 := (rootAt_b h2).1
  exact .inl (by omega)
theorem LexQ.ne {p q : List Int} (h : LexQ p q) : p ≠ q := by
  intro e
  subst e
  rcases h with h | h <;> omega
theorem rootsN_nodup (n : Int) : (rootsN n).Nodup := (rootsN_sorted n).imp LexQ.ne
/-- there is at least one -/
theorem rootsN_some {n : Int} (hn : 1 ≤ n ∧ n ≤ 30) : 0 < (rootsN n).length := by
  have : ∀ k : Fin 30, RB ((k.val : Int) + 1) ((k.val : Int) + 2) (((k.val : Int) + 1) * ((k.val : Int) + 2)) (((k.val : Int) + 1) * ((k.val : Int) + 2) + 1) = true := by decide
  have h := (RB_iff _ _ _ _).1 (this ⟨(n - 1).toNat, by omega⟩)
  simp only at h
  rw [show (((n - 1).toNat : Nat) : Int) = n - 1 by omega, show n - 1 + 1 = n by omega, show n - 1 + 2 = n + 1 by omega] at h
  have h1 : 1 * (n + 1) ≤ n * (n + 1) := Int.mul_le_mul_of_nonneg_right hn.1 (by omega)
  exact List.length_pos_of_mem (rootsN_in hn (by omega) (by omega) h)
/-! ### the grid -/
def gD (n b c : Int) (k : Nat) : List (List Int) := ((List.range k).map fun z : Nat => [-n, b, c, c + (z : Int)]).filter fun q => RB n (q.getD 1 0) (q.getD 2 0) (q.getD 3 0)
def gC (n b : Int) (k : Nat) : List (List Int) := (List.range k).flatMap fun y : Nat => gD n b (b + (y : Int)) (60 - (b + (y : Int)) + 1).toNat
def gB (n : Int) (k : Nat) : List (List Int) := (List.range k).flatMap fun x : Nat => gC n ((x : Int) + 1) (60 - x)
theorem gD_succ (n b c : Int) (k : Nat) : (gD n b c (k + 1)).length = (gD n b c k).length + (if RB n b c (c + k) = true then 1 else 0) := by
  unfold gD
  rw [List.range_succ, List.map_append, List.filter_append, List.length_append]
  simp only [List.map_cons, List.map_nil, List.filter_cons, List.filter_nil]
  have : RB n ([-n, b, c, c + (k : Int)].getD 1 0) ([-n, b, c, c + (k : Int)].getD 2 0) ([-n, b, c, c + (k : Int)].getD 3 0) = RB n b c (c + k) := rfl
  rw [this]
  split <;> simp
theorem gC_succ (n b : Int) (k : Nat) : (gC n b (k + 1)).length = (gC n b k).length + (gD n b (b + (k : Int)) (60 - (b + (k : Int)) + 1).toNat).length := by
  unfold gC
  rw [List.range_succ, List.flatMap_append, List.length_append]
  simp
theorem gB_succ (n : Int) (k : Nat) : (gB n (k + 1)).length = (gB n k).length + (gC n ((k : Int) + 1) (60 - k)).length := by
  unfold gB
  rw [List.range_succ, List.flatMap_append, List.length_append]
  simp
theorem mem_gD {n b c : Int} {k : Nat} {q : List Int} : q ∈ gD n b c k ↔ ∃ d, q = [-n, b, c, d] ∧ c ≤ d ∧ d < c + k ∧ RB n b c d = true := by
  unfold gD
  rw [List.mem_filter, List.mem_map]
  constructor
  · rintro ⟨⟨z, hz, rfl⟩, h⟩
    have := List.mem_range.1 hz
    exact ⟨c + z, rfl, by omega, by omega, h⟩
  · rintro ⟨d, rfl, h1, h2, h3⟩
    exact ⟨⟨(d - c).toNat, List.mem_range.2 (by omega), by rw [show c + ((d - c).toNat : Int) = d by omega]⟩, h3⟩
theorem mem_gC {n b : Int} {k : Nat} {q : List Int} : q ∈ gC n b k ↔ ∃ c d, q = [-n, b, c, d] ∧ b ≤ c ∧ c < b + k ∧ c ≤ d ∧ d ≤ 60 ∧ RB n b c d = true := by
  unfold gC
  rw [List.mem_flatMap]
  constructor
  · rintro ⟨y, hy, h⟩
    have := List.mem_range.1 hy
    obtain ⟨d, e, h1, h2, h3⟩ := mem_gD.1 h
    exact ⟨_, d, e, by omega, by omega, h1, by omega, h3⟩
  · rintro ⟨c, d, e, h1, h2, h3, h4, h5⟩
    refine ⟨(c - b).toNat, List.mem_range.2 (by omega), ?_⟩
    rw [show b + ((c - b).toNat : Int) = c by omega]
    exact mem_gD.2 ⟨d, e, h3, by omega, h5⟩
theorem mem_gB {n : Int} {q : List Int} : q ∈ gB n 60 ↔ ∃ b c d, q = [-n, b, c, d] ∧ 1 ≤ b ∧ b ≤ c ∧ c ≤ d ∧ d ≤ 60 ∧ RB n b c d = true := by
  unfold gB
  rw [List.mem_flatMap]
  constructor
  · rintro ⟨x, hx, h⟩
    have := List.mem_range.1 hx
    obtain ⟨c, d, e, h1, h2, h3, h4, h5⟩ := mem_gC.1 h
    exact ⟨_, c, d, e, by omega, h1, h3, h4, h5⟩
  · rintro ⟨b, c, d, e, h0, h1, h2, h3, h4⟩
    refine ⟨(b - 1).toNat, List.mem_range.2 (by omega), ?_⟩
    rw [show ((b - 1).toNat : Int) + 1 = b by omega]
    exact mem_gC.2 ⟨c, d, e, h1, by omega, h2, h3, h4⟩
theorem gD_nodup (n b c : Int) (k : Nat) : (gD n b c k).Nodup := by
  unfold gD
  refine List.Nodup.sublist List.filter_sublist ?_
  unfold List.Nodup
  rw [List.pairwise_map]
  refine List.Pairwise.imp (R := fun x y : Nat => x < y) ?_ (List.pairwise_lt_range)
  intro x y hxy e
  simp only [List.cons.injEq, and_true, true_and] at e
  omega
theorem gC_nodup (n b : Int) (k : Nat) : (gC n b k).Nodup := by
  unfold gC List.Nodup
  rw [List.pairwise_flatMap]
  refine ⟨fun y _ => gD_nodup _ _ _ _, ?_⟩
  refine List.Pairwise.imp (R := fun x y : Nat => x < y) ?_ (List.pairwise_lt_range)
  intro x y hxy p hp q hq e
  obtain ⟨d1, e1, _⟩ := mem_gD.1 hp
  obtain ⟨d2, e2, _⟩ := mem_gD.1 hq
  rw [e1, e2] at e
  simp only [List.cons.injEq, and_true, true_and] at e
  omega
theorem gB_nodup (n : Int) (k : Nat) : (gB n k).Nodup := by
  unfold gB List.Nodup
  rw [List.pairwise_flatMap]
  refine ⟨fun y _ => gC_nodup _ _ _, ?_⟩
  refine List.Pairwise.imp (R := fun x y : Nat => x < y) ?_ (List.pairwise_lt_range)
  intro x y hxy p hp q hq e
  obtain ⟨c1, d1, e1, _⟩ := mem_gC.1 hp
  obtain ⟨c2, d2, e2, _⟩ := mem_gC.1 hq
  rw [e1, e2] at e
  simp only [List.cons.injEq, and_true, true_and] at e
  omega
theorem nodup_leR : ∀ {M L : List (List Int)}, M.Nodup → (∀ x ∈ M, x ∈ L) → M.length ≤ L.length := by
  intro M
  induction M with
  | nil => intro L _ _; simp
  | cons m M ih =>
    intro L hM h
    obtain ⟨h1, h2⟩ := List.nodup_cons.1 hM
    have hm := h m (by simp)
    have := ih (L := L.erase m) h2 fun x hx => (List.mem_erase_of_ne (by intro e; subst e; exact h1 hx)).2 (h x (by simp [hx]))
    rw [List.length_erase_of_mem hm] at this
    have := List.length_pos_of_mem hm
    simp; omega
theorem gD_len (n b c : Int) (k : Nat) : (gD n b c k).length ≤ k := by
  unfold gD
  refine Nat.le_trans (List.length_filter_le _ _) ?_
  simp
theorem gC_len {n b : Int} (hb : 1 ≤ b) (k : Nat) : (gC n b k).length ≤ 60 * k := by
  induction k with
  | zero => simp [gC]
  | succ k ih =>
    rw [gC_succ]
    have := gD_len n b (b + (k : Int)) (60 - (b + (k : Int)) + 1).toNat
    omega
theorem gB_len (n : Int) (k : Nat) : (gB n k).length ≤ 3600 * k := by
  induction k with
  | zero => simp [gB]
  | succ k ih =>
    rw [gB_succ]
    have := gC_len (n := n) (b := (k : Int) + 1) (by omega) (60 - k)
    omega
def toldN (n : Int) (k : Nat) : Nat := (((rootsN n).take k).filter fun q => decide (q.getD 3 0 ≤ 60)).length
theorem told_succ {n : Int} {k : Nat} (h : k < (rootsN n).length) : toldN n (k + 1) = toldN n k + (if ((rootsN n).getD k []).getD 3 0 ≤ 60 then 1 else 0) := by
  have e : (rootsN n).getD k [] = (rootsN n)[k] := by simp [h]
  unfold toldN
  rw [take_snoc _ k h, List.filter_append, List.length_append, e]
  simp only [List.filter_cons, List.filter_nil]
  by_cases hh : (rootsN n)[k].getD 3 0 ≤ 60
  · rw [if_pos (decide_eq_true hh), if_pos hh]; rfl
  · rw [if_neg (by rw [decide_eq_false hh]; simp), if_neg hh]; rfl
/-- as many as are found in the grid are told -/
theorem found_told {n : Int} (hn : 1 ≤ n ∧ n ≤ 30) : (gB n 60).length = toldN n (rootsN n).length := by
  unfold toldN
  rw [List.take_length]
  apply Nat.le_antisymm
  · refine nodup_leR (gB_nodup n 60) fun q hq => ?_
    obtain ⟨b, c, d, e, h0, h1, h2, h3, h4⟩ := mem_gB.1 hq
    subst e
    exact List.mem_filter.2 ⟨rootsN_in hn h1 h2 ((RB_iff _ _ _ _).1 h4), decide_eq_true h3⟩
  · refine nodup_leR (List.Nodup.sublist List.filter_sublist (rootsN_nodup n)) fun q hq => ?_
    obtain ⟨h1, h2⟩ := List.mem_filter.1 hq
    obtain ⟨b, c, d, e, h3, h4, h5, h6, _⟩ := rootsN_out hn.1 h1
    subst e
    exact mem_gB.2 ⟨b, c, d, rfl, by omega, h5, h6, of_decide_eq_true h2, (RB_iff _ _ _ _).2 h3⟩
end Go.Proofs.Ytoaopmafokoaoab
