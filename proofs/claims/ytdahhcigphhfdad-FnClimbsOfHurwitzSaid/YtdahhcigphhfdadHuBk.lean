/- Equations of Hurwitz: the way up again (arithmetic). -/
import Derived.Test.YtdahhcigphhfdadHuT
namespace Go.Proofs.Ytdahhcigphhfdad
open Go.RowKit

theorem erase_perm (ys : List Int) (i : Nat) (h : i < ys.length) : ys.Perm (ys[i] :: ys.eraseIdx i) := by
  have e : ys = ys.take i ++ ys[i] :: ys.drop (i + 1) := by simp
  have e2 : ys.eraseIdx i = ys.take i ++ ys.drop (i + 1) := List.eraseIdx_eq_take_drop_succ _ _
  rw [e2]
  conv => lhs; rw [e]
  exact List.perm_middle
theorem set_perm_erase (ys : List Int) (i : Nat) (h : i < ys.length) (x : Int) : (ys.set i x).Perm (x :: ys.eraseIdx i) := by
  rw [List.set_eq_take_append_cons_drop, if_pos h, List.eraseIdx_eq_take_drop_succ]
  exact List.perm_middle
theorem Sol.back {zs : List Int} {a b : Int} (h : Sol zs a b) : ∃ i, i < (nextD a zs).length ∧ jumpL a (nextD a zs) i = some zs := by
  have h0 : 0 < zs.length := by have := h.hl; omega
  obtain ⟨r, hr⟩ : ∃ r, othL a zs 0 = r := ⟨_, rfl⟩
  obtain ⟨ys, hys⟩ : ∃ ys, nextD a zs = ys := ⟨_, rfl⟩
  have hp1 : ys.Perm (r :: zs.eraseIdx 0) := by
    rw [← hys]
    unfold nextD
    rw [hr]
    exact (sortD_perm _).trans (set_perm_erase zs 0 h0 r)
  rw [hys]
  have hm : r ∈ ys := hp1.mem_iff.2 (by simp)
  obtain ⟨i, hi, hir⟩ := List.getElem_of_mem hm
  refine ⟨i, hi, ?_⟩
  have hp2 : (ys.eraseIdx i).Perm (zs.eraseIdx 0) := by
    have := (erase_perm ys i hi).symm.trans hp1
    rw [hir] at this
    exact (List.perm_cons r).1 this
  have ho : othL a ys i = zs.getD 0 0 := by
    unfold othL restP at hr ⊢
    rw [prodL_perm hp2, show ys.getD i 0 = r by simp [hi, hir]]
    omega
  have hz := h.in5 (zs.getD 0 0) (by simp [h0])
  unfold jumpL
  rw [ho, if_pos (within5.2 hz)]
  congr 1
  refine sortD_of ((fallB_iff (by omega)).1 h.hf).1 ?_
  have h1 : (ys.set i (zs.getD 0 0)).Perm (zs.getD 0 0 :: zs.eraseIdx 0) := (set_perm_erase ys i hi _).trans (hp2.cons _)
  have h2 := (erase_perm zs 0 h0).symm
  rw [show zs[0] = zs.getD 0 0 by simp [h0]] at h2
  exact (h1.trans h2).symm

/-- the least index at which one solution jumps to another one -/
def idxF (a : Int) (ys zs : List Int) : Nat := ((List.range ys.length).takeWhile fun i => !decide (jumpL a ys i = some zs)).length
theorem takeWhile_range (p : Nat → Bool) (n : Nat) : (∀ j, j < ((List.range n).takeWhile p).length → p j = true) ∧ (((List.range n).takeWhile p).length < n → p ((List.range n).takeWhile p).length = false) := by
  have hpre := List.takeWhile_prefix p (l := List.range n)
  have hlen : ((List.range n).takeWhile p).length ≤ n := by simpa using hpre.length_le
  have hget : ∀ j (hj : j < ((List.range n).takeWhile p).length), ((List.range n).takeWhile p)[j] = j := by
    intro j hj
    have := hpre.getElem hj
    rw [this]; simp
  refine ⟨fun j hj => ?_, fun hlt => ?_⟩
  · have hm := List.getElem_mem hj
    rw [hget j hj] at hm
    have h2 : ∀ (l : List Nat) (x : Nat), x ∈ l.takeWhile p → p x = true := by
      intro l
      induction l with
      | nil => intro x hx; simp at hx
      | cons y l ih =>
        intro x hx
        rw [List.takeWhile_cons] at hx
        split at hx
        · rcases List.mem_cons.1 hx with rfl | hx
          · assumption
          · exact ih x hx
        · simp at hx
    exact h2 _ _ hm
  · have h3 : ∀ (l : List Nat) (h : (l.takeWhile p).length < l.length), p (l[(l.takeWhile p).length]) = false := by
      intro l
      induction l with
      | nil => intro h; simp at h
      | cons y l ih =>
        intro h
        cases hy : p y
        · simp [hy]
        · simp only [List.takeWhile_cons, hy, if_true, List.length_cons] at h ⊢
          simp only [List.getElem_cons_succ]
          exact ih (by omega)
    have := h3 (List.range n) (by simpa using hlt)
    simpa using this
theorem idxF_spec {a : Int} {ys zs : List Int} (h : ∃ i, i < ys.length ∧ jumpL a ys i = some zs) :
    idxF a ys zs < ys.length ∧ jumpL a ys (idxF a ys zs) = some zs ∧ ∀ j, j < idxF a ys zs → jumpL a ys j ≠ some zs := by
  have t := takeWhile_range (fun i => !decide (jumpL a ys i = some zs)) ys.length
  obtain ⟨i, hi, hj⟩ := h
  have hlt : idxF a ys zs < ys.length := by
    apply Decidable.byContradiction
    intro hc
    have := t.1 i (by unfold idxF at hc; omega)
    simp [hj] at this
  refine ⟨hlt, ?_, fun j hj => ?_⟩
  · have := t.2 hlt
    unfold idxF
    simpa using this
  · have := t.1 j hj
    simpa using this
theorem idxF_le4 {a b : Int} {ys zs : List Int} (hS : Sol ys a b) : idxF a ys zs ≤ 4 := by
  have := List.takeWhile_prefix (fun i => !decide (jumpL a ys i = some zs)) (l := List.range ys.length)
  have h2 := this.length_le
  have h3 := hS.hl
  unfold idxF
  simp at h2
  omega
theorem wayL_last {a : Int} {zs : List Int} (hl : lastB a zs = true) : wayL a zs = [zs] := by unfold wayL; rw [belowL_last hl]
theorem wayL_step {zs : List Int} {a b : Int} (h : Sol zs a b) (hl : lastB a zs = false) : wayL a zs = zs :: wayL a (nextD a zs) := by unfold wayL; rw [belowL_step h hl]
theorem way_sol {a b : Int} (k : Nat) : ∀ zs : List Int, Sol zs a b → (sumL zs).toNat ≤ k → ∀ i, i < (wayL a zs).length → Sol ((wayL a zs).getD i []) a b := by
  induction k with
  | zero => intro zs h h1; have := h.sum_bd; omega
  | succ k ih =>
    intro zs h h1 i hi
    cases hl : lastB a zs
    · have hn := h.next hl
      rw [wayL_step h hl] at hi ⊢
      cases i with
      | zero => exact h
      | succ i => exact ih _ hn.2.1 (by omega) i (by simpa using hi)
    · rw [wayL_last hl] at hi ⊢
      obtain rfl : i = 0 := by simpa using hi
      exact h
theorem way_next {a b : Int} (k : Nat) : ∀ zs : List Int, Sol zs a b → (sumL zs).toNat ≤ k → ∀ i, i + 1 < (wayL a zs).length → lastB a ((wayL a zs).getD i []) = false ∧ (wayL a zs).getD (i + 1) [] = nextD a ((wayL a zs).getD i []) := by
  induction k with
  | zero => intro zs h h1; have := h.sum_bd; omega
  | succ k ih =>
    intro zs h h1 i hi
    cases hl : lastB a zs
    · have hn := h.next hl
      rw [wayL_step h hl] at hi ⊢
      cases i with
      | zero => exact ⟨hl, rfl⟩
      | succ i => exact ih _ hn.2.1 (by omega) i (by simpa using hi)
    · rw [wayL_last hl] at hi
      simp at hi
/-- the word from the end of a way up to its place k -/
def upW (a : Int) (W : List (List Int)) (m : Nat) : List Int := (List.range m).map fun j => ((idxF a (W.getD (W.length - 1 - j) []) (W.getD (W.length - 2 - j) []) : Nat) : Int)
theorem upW_len (a : Int) (W : List (List Int)) (m : Nat) : (upW a W m).length = m := by simp [upW]
theorem upW_succ (a : Int) (W : List (List Int)) (m : Nat) : upW a W (m + 1) = upW a W m ++ [((idxF a (W.getD (W.length - 1 - m) []) (W.getD (W.length - 2 - m) []) : Nat) : Int)] := by
  simp [upW, List.range_succ]
theorem way_back {zs : List Int} {a b : Int} (h : Sol zs a b) (i : Nat) (hi : i + 1 < (wayL a zs).length) :
    ∃ j, j < ((wayL a zs).getD (i + 1) []).length ∧ jumpL a ((wayL a zs).getD (i + 1) []) j = some ((wayL a zs).getD i []) := by
  have h1 := way_sol _ zs h (Nat.le_refl _) i (by omega)
  have h2 := way_next _ zs h (Nat.le_refl _) i hi
  rw [h2.2]
  exact h1.back
def upAns (zs : List Int) (a b : Int) : Option (List Int) := if (givenB a b && solB zs a b) = true then some (upW a (wayL a zs) ((wayL a zs).length - 1)) else none
end Go.Proofs.Ytdahhcigphhfdad
