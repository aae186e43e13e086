/- All right triples up to a bound: pairs, rows of them in order: arithmetic. -/
import Derived.Test.YtdahhcigphhfdacRi
namespace Go.Proofs.Ytdahhcigphhfdac
open Go.RowKit

abbrev Rt := Int × Int
def noRt : Rt := (0, 0)
def rtZ (p : Rt) : Int := p.1 * p.1 + p.2 * p.2
def rtX (p : Rt) : Int := p.1 * p.1 - p.2 * p.2
def rtL (p : Rt) : List Int := sidesL p.1 p.2
def befR (p q : Rt) : Bool := decide (rtZ p < rtZ q) || (decide (rtZ p = rtZ q) && decide (rtX p < rtX q))
theorem befR_iff {p q : Rt} : befR p q = true ↔ rtZ p < rtZ q ∨ (rtZ p = rtZ q ∧ rtX p < rtX q) := by
  unfold befR; simp
theorem befR_not {p q : Rt} : befR p q = false ↔ ¬ (rtZ p < rtZ q ∨ (rtZ p = rtZ q ∧ rtX p < rtX q)) := by
  rw [← befR_iff]; simp
/-- one of the pairs that are asked -/
def inR (most : Int) (p : Rt) : Bool := pairB p.1 p.2 && decide (rtZ p ≤ most)
theorem key_inj {p q : Rt} (hp : Pair p.1 p.2) (hq : Pair q.1 q.2) (h1 : rtZ p = rtZ q) (h2 : rtX p = rtX q) : p = q := by
  unfold rtZ rtX at *
  have e1 : p.1 * p.1 = q.1 * q.1 := by omega
  have e2 : p.2 * p.2 = q.2 * q.2 := by omega
  have a1 := hp.h1
  have a2 := hp.h2
  have b1 := hq.h1
  have b2 := hq.h2
  have c1 : (rootN (p.1 * p.1).toNat : Int) = p.1 := root_sq (by omega) _ rfl
  have c2 : (rootN (q.1 * q.1).toNat : Int) = q.1 := root_sq (by omega) _ rfl
  have c3 : (rootN (p.2 * p.2).toNat : Int) = p.2 := root_sq (by omega) _ rfl
  have c4 : (rootN (q.2 * q.2).toNat : Int) = q.2 := root_sq (by omega) _ rfl
  rw [e1] at c1
  rw [e2] at c3
  exact Prod.ext (c1.symm.trans c2) (c3.symm.trans c4)

/-- Row n of a list of pairs with first number m: those with a second number below k. -/
def rowP (most m : Int) (k : Nat) : List Rt := ((List.range k).filter fun (i : Nat) => inR most (m, (i : Int))).map fun (i : Nat) => (m, (i : Int))
theorem rowP_succ (most m : Int) (k : Nat) : rowP most m (k + 1) = if inR most (m, (k : Int)) = true then rowP most m k ++ [(m, (k : Int))] else rowP most m k := by
  unfold rowP
  rw [List.range_succ, List.filter_append, List.map_append]
  split
  · rename_i h; simp [h]
  · rename_i h; simp [h]
/-- All with a first number below m. -/
def rowsP (most : Int) : Nat → List Rt
  | 0 => []
  | m + 1 => rowsP most m ++ rowP most (m : Int) m
theorem inR_zero (most m : Int) : inR most (m, 0) = false := by
  cases h : inR most (m, 0)
  · rfl
  · unfold inR at h
    rw [Bool.and_eq_true] at h
    have := (pairB_iff.1 h.1).h1
    simp at this
theorem rowP_one (most m : Int) : rowP most m 1 = [] := by
  have := rowP_succ most m 0
  rw [show ((0 : Nat) : Int) = 0 from rfl, inR_zero] at this
  simpa [rowP] using this
theorem rowP_mem {most m : Int} {k : Nat} {p : Rt} (h : p ∈ rowP most m k) : p.1 = m ∧ inR most p = true ∧ p.2 < k := by
  unfold rowP at h
  rw [List.mem_map] at h
  obtain ⟨i, hi, rfl⟩ := h
  rw [List.mem_filter, List.mem_range] at hi
  exact ⟨rfl, hi.2, by simp; omega⟩
theorem rowP_len (most m : Int) (k : Nat) : (rowP most m k).length ≤ k := by
  unfold rowP
  rw [List.length_map]
  exact Nat.le_trans (List.length_filter_le ..) (by simp)
theorem rowP_nodup (most m : Int) (k : Nat) : (rowP most m k).Nodup := by
  induction k with
  | zero => simp [rowP]
  | succ k ih =>
    rw [rowP_succ]
    split
    · rw [List.nodup_append]
      refine ⟨ih, by simp, fun a ha b hb => ?_⟩
      have := (rowP_mem ha).2.2
      rw [List.mem_singleton] at hb
      subst hb
      intro e
      subst e
      simp at this
    · exact ih
theorem rowsP_mem {most : Int} {m : Nat} {p : Rt} (h : p ∈ rowsP most m) : p.1 < m ∧ inR most p = true := by
  induction m with
  | zero => simp [rowsP] at h
  | succ m ih =>
    rw [rowsP, List.mem_append] at h
    rcases h with h | h
    · have := ih h; exact ⟨by omega, this.2⟩
    · have := rowP_mem h; exact ⟨by omega, this.2.1⟩
theorem rowsP_nodup (most : Int) (m : Nat) : (rowsP most m).Nodup := by
  induction m with
  | zero => simp [rowsP]
  | succ m ih =>
    rw [rowsP, List.nodup_append]
    refine ⟨ih, rowP_nodup _ _ _, fun a ha b hb e => ?_⟩
    subst e
    have h1 := (rowsP_mem ha).1
    have h2 := (rowP_mem hb).1
    omega
theorem rowsP_len (most : Int) (m : Nat) : (rowsP most m).length ≤ m * m := by
  induction m with
  | zero => simp [rowsP]
  | succ m ih =>
    rw [rowsP, List.length_append]
    have := rowP_len most (m : Int) m
    have e : (m + 1) * (m + 1) = m * m + 2 * m + 1 := by rw [Nat.mul_add, Nat.add_mul]; omega
    omega

/-! ### insertion -/

/-- Where the model puts t: behind all that do not come after it. -/
def posR (t : Rt) (L : List Rt) : Nat → Nat
  | 0 => 0
  | k + 1 => if befR t (L.getD k noRt) = true then posR t L k else k + 1
def insR (L : List Rt) (t : Rt) : List Rt := L.take (posR t L L.length) ++ t :: L.drop (posR t L L.length)
def SortR (L : List Rt) : Prop := L.Pairwise fun p q => befR p q = true
theorem posR_spec (t : Rt) (L : List Rt) (k : Nat) : posR t L k ≤ k ∧ (∀ j, posR t L k ≤ j → j < k → befR t (L.getD j noRt) = true) ∧ (0 < posR t L k → befR t (L.getD (posR t L k - 1) noRt) = false) := by
  induction k with
  | zero => exact ⟨Nat.le_refl _, fun j _ h => absurd h (Nat.not_lt_zero _), fun h => absurd h (by simp [posR])⟩
  | succ k ih =>
    unfold posR
    split
    · rename_i h
      refine ⟨by omega, fun j h1 h2 => ?_, ih.2.2⟩
      by_cases e : j = k
      · subst e; exact h
      · exact ih.2.1 j h1 (by omega)
    · rename_i h
      exact ⟨Nat.le_refl _, fun j h1 h2 => by omega, fun _ => by simpa using h⟩
theorem befR_trans {p q r : Rt} (h1 : befR p q = true) (h2 : befR q r = true) : befR p r = true := by
  rw [befR_iff] at *; omega
theorem insR_perm (L : List Rt) (t : Rt) : (insR L t).Perm (t :: L) := by
  unfold insR
  have h := List.perm_middle (l₁ := L.take (posR t L L.length)) (a := t) (l₂ := L.drop (posR t L L.length))
  rw [List.take_append_drop] at h
  exact h
theorem insR_len (L : List Rt) (t : Rt) : (insR L t).length = L.length + 1 := by rw [(insR_perm L t).length_eq]; rfl
theorem insR_sort {L : List Rt} {t : Rt} (hs : SortR L) (ht : ∀ p ∈ L, befR t p = false → befR p t = true) : SortR (insR L t) := by
  obtain ⟨h1, h2, h3⟩ := posR_spec t L L.length
  unfold insR
  obtain ⟨k, hk⟩ : ∃ k, posR t L L.length = k := ⟨_, rfl⟩
  rw [hk] at h1 h2 h3 ⊢
  have hs0 := hs
  unfold SortR at hs ⊢
  rw [List.pairwise_append, List.pairwise_cons]
  have hsplit : (L.take k ++ L.drop k).Pairwise fun p q => befR p q = true := by rw [List.take_append_drop]; exact hs
  rw [List.pairwise_append] at hsplit
  have hlow : ∀ p ∈ L.take k, befR p t = true := by
    intro p hp
    obtain ⟨i, hi, rfl⟩ := List.getElem_of_mem hp
    have hi1 : i < k := by rw [List.length_take] at hi; omega
    have hi2 : i < L.length := by omega
    rw [List.getElem_take]
    have hlast := h3 (by omega)
    have hkl : k - 1 < L.length := by omega
    rw [show L.getD (k - 1) noRt = L[k - 1] by simp [hkl]] at hlast
    have hb := ht _ (List.getElem_mem hkl) hlast
    by_cases e : i = k - 1
    · subst e; exact hb
    · exact befR_trans (List.pairwise_iff_getElem.1 hs i (k - 1) hi2 hkl (by omega)) hb
  have hhigh : ∀ p ∈ L.drop k, befR t p = true := by
    intro p hp
    obtain ⟨i, hi, rfl⟩ := List.getElem_of_mem hp
    rw [List.length_drop] at hi
    rw [List.getElem_drop]
    have := h2 (k + i) (by omega) (by omega)
    rwa [show L.getD (k + i) noRt = L[k + i]'(by omega) by simp [show k + i < L.length by omega]] at this
  refine ⟨hsplit.1, ⟨hhigh, hsplit.2.1⟩, fun a ha b hb => ?_⟩
  rcases List.mem_cons.1 hb with rfl | hb
  · exact hlow a ha
  · exact hsplit.2.2 a ha b hb

theorem foldl_insR (M : List Rt) : ∀ L : List Rt, SortR L → (L ++ M).Nodup → (∀ p ∈ L ++ M, Pair p.1 p.2) → SortR (M.foldl insR L) ∧ (M.foldl insR L).Perm (L ++ M) := by
  induction M with
  | nil => intro L hs _ _; exact ⟨hs, by simp⟩
  | cons t M ih =>
    intro L hs hn hp
    have hpt : Pair t.1 t.2 := hp t (by simp)
    have hperm := insR_perm L t
    have hnt : t ∉ L := by
      intro h
      have := (List.nodup_append.1 hn).2.2 t h t (by simp)
      exact this rfl
    have hins : SortR (insR L t) := insR_sort hs (fun p hpL hb => by
      have h1 := hp p (List.mem_append_left _ hpL)
      rw [befR_not] at hb
      rw [befR_iff]
      by_cases hz : rtZ p = rtZ t
      · by_cases hx : rtX p = rtX t
        · exact absurd (key_inj h1 hpt hz hx ▸ hpL) hnt
        · omega
      · omega)
    have hp2 : (insR L t ++ M).Perm (L ++ t :: M) := (hperm.append_right M).trans List.perm_middle.symm
    obtain ⟨k1, k2⟩ := ih (insR L t) hins (hp2.nodup_iff.2 hn) (fun p h => hp p (hp2.mem_iff.1 h))
    exact ⟨k1, k2.trans hp2⟩
/-- All right triples up to a bound, in order. -/
def allR (most : Int) (m : Nat) : List Rt := (rowsP most m).foldl insR []
theorem allR_spec (most : Int) (m : Nat) : SortR (allR most m) ∧ (allR most m).Perm (rowsP most m) := by
  have := foldl_insR (rowsP most m) [] List.Pairwise.nil (by simpa using rowsP_nodup most m) (fun p hp => by
    have := (rowsP_mem (by simpa using hp)).2
    unfold inR at this
    rw [Bool.and_eq_true] at this
    exact pairB_iff.1 this.1)
  rw [List.nil_append] at this
  exact this
theorem sortR_same {L M : List Rt} (hl : SortR L) (hm : SortR M) (h : L.Perm M) : L = M :=
  h.eq_of_pairwise (le := fun p q => befR p q = true) (fun a b _ _ h1 h2 => by rw [befR_iff] at h1 h2; omega) hl hm
end Go.Proofs.Ytdahhcigphhfdac
