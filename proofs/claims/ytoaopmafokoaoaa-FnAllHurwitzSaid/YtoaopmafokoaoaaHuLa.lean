/- Equations of Hurwitz: what the law on jumps says: arithmetic. -/
import Derived.Test.YtoaopmafokoaoaaHuUVW
import Derived.Test.YtoaopmafokoaoaaHuOP
namespace Go.Proofs.Ytoaopmafokoaoaa
open Go.RowKit

theorem perm_at {zs : List Int} {i : Nat} (hi : i < zs.length) : zs.Perm (zs.getD i 0 :: zs.eraseIdx i) := by
  have e : zs = zs.take i ++ zs[i] :: zs.drop (i + 1) := by simp
  rw [List.eraseIdx_eq_take_drop_succ, getD_at zs i hi]
  conv => lhs; rw [e]
  exact List.perm_middle
theorem erase_set (zs : List Int) (i : Nat) (r : Int) : (zs.set i r).eraseIdx i = zs.eraseIdx i := by
  rw [List.eraseIdx_eq_take_drop_succ, List.eraseIdx_eq_take_drop_succ, List.take_set, List.drop_set]
  rw [List.set_eq_of_length_le (by rw [List.length_take]; omega), if_pos (by omega)]
theorem set_at {zs : List Int} {i : Nat} (hi : i < zs.length) (r : Int) : (zs.set i r).getD i 0 = r := by simp [hi]
theorem jump_form {a : Int} {zs ys : List Int} {i : Nat} (h : jumpL a zs i = some ys) : (1 ≤ othL a zs i ∧ othL a zs i ≤ 100000) ∧ ys = sortD (zs.set i (othL a zs i)) := by
  unfold jumpL at h
  split at h
  · rename_i hw
    injection h with h
    exact ⟨within5.1 hw, h.symm⟩
  · cases h
theorem jump_back {zs : List Int} {a b : Int} (h : Sol zs a b) {i : Nat} (hi : i < zs.length) {ys : List Int} (hj : jumpL a zs i = some ys) {k : Nat} (hk : k < ys.length) (he : ys.getD k 0 = othL a zs i) : jumpL a ys k = some zs := by
  obtain ⟨hr, hys⟩ := jump_form hj
  obtain ⟨r, hre⟩ : ∃ r, othL a zs i = r := ⟨_, rfl⟩
  rw [hre] at hr hys he
  have p1 : ys.Perm (zs.set i r) := by rw [hys]; exact sortD_perm _
  have p2 : ys.Perm (r :: ys.eraseIdx k) := by have := perm_at hk; rwa [he] at this
  have p3 : (zs.set i r).Perm (r :: zs.eraseIdx i) := by
    have := perm_at (zs := zs.set i r) (i := i) (by simpa using hi)
    rwa [set_at hi, erase_set] at this
  have p4 : (ys.eraseIdx k).Perm (zs.eraseIdx i) := (p2.symm.trans (p1.trans p3)).cons_inv
  have hrest : restP a ys k = restP a zs i := by unfold restP; rw [prodL_perm p4]
  have ho : othL a ys k = zs.getD i 0 := by
    have e : restP a zs i - zs.getD i 0 = r := hre
    show restP a ys k - ys.getD k 0 = _
    rw [hrest, he]; omega
  have hz := h.in5 (zs.getD i 0) (by rw [getD_at zs i hi]; exact List.getElem_mem hi)
  unfold jumpL
  rw [ho, if_pos (within5.2 hz)]
  congr 1
  refine sortD_of ((fallB_iff (m := 100000) (by omega)).1 h.hf).1 ?_
  have q1 : (ys.set k (zs.getD i 0)).Perm (zs.getD i 0 :: ys.eraseIdx k) := by
    have := perm_at (zs := ys.set k (zs.getD i 0)) (i := k) (by simpa using hk)
    rwa [set_at hk, erase_set] at this
  exact (perm_at hi).trans ((p4.symm.cons _).trans q1.symm)
theorem jump_in {zs : List Int} {a : Int} {i : Nat} (hi : i < zs.length) {ys : List Int} (hj : jumpL a zs i = some ys) : ∃ k, k < ys.length ∧ ys.getD k 0 = othL a zs i := by
  obtain ⟨_, hys⟩ := jump_form hj
  have hm : othL a zs i ∈ ys := by
    rw [hys, (sortD_perm _).mem_iff]
    exact List.mem_iff_getElem.2 ⟨i, by simpa using hi, by simp⟩
  obtain ⟨k, hk, e⟩ := List.mem_iff_getElem.1 hm
  exact ⟨k, hk, by rw [getD_at ys k hk]; exact e⟩
theorem oth_mul {zs : List Int} {a b : Int} (h : Sol zs a b) {i : Nat} (hi : i < zs.length) : othL a zs i * zs.getD i 0 = sqs zs - zs.getD i 0 * zs.getD i 0 - b := by
  have e1 := h.he
  have e2 := prodL_erase zs i hi
  rw [e2] at e1
  show (restP a zs i - zs.getD i 0) * zs.getD i 0 = _
  have e3 : restP a zs i = a * prodL (zs.eraseIdx i) := rfl
  rw [e3, e1]
  generalize prodL (zs.eraseIdx i) = P
  grind
/-- what the two answers say -/
theorem jumps_law {zs : List Int} {a b i : Int} {o : Option (List Int)} {o2 : Option Int} (h1 : jumpAns zs a b i = o) (h2 : othAns zs a b i = o2) :
    (o2 = none ∧ o = none) ∨ ∃ k : Nat, i = (k : Int) ∧ k < zs.length ∧ Sol zs a b ∧ o2 = some (othL a zs k) ∧ o = jumpL a zs k := by
  unfold jumpAns at h1
  unfold othAns at h2
  by_cases hc : (givenB a b && solB zs a b) = true ∧ within 0 ((zs.length : Int) - 1) i = true
  · rw [if_pos hc] at h1 h2
    obtain ⟨hg, hw⟩ := hc
    rw [Bool.and_eq_true] at hg
    have hi := within_idx.1 hw
    refine .inr ⟨i.toNat, by omega, by omega, Sol.of hg.1 hg.2, h2.symm, h1.symm⟩
  · rw [if_neg hc] at h1 h2
    exact .inl ⟨h2.symm, h1.symm⟩
end Go.Proofs.Ytoaopmafokoaoaa
