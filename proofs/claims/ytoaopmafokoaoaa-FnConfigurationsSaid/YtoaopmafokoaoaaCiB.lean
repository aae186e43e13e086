/- Slices of circles: copies, comparisons, marks. -/
import Derived.Test.YtoaopmafokoaoaaCiL
namespace Go.Proofs.Ytoaopmafokoaoaa
open Go.RowKit

/-- the first k of L, and zeros -/
def padC (L : List Ci4) (k : Nat) : List Ci4 := L.take k ++ List.replicate (L.length - k) c00
theorem padC_len (L : List Ci4) (k : Nat) : (padC L k).length = L.length := by
  unfold padC
  rw [List.length_append, List.length_take, List.length_replicate]
  omega
theorem padC_step (L : List Ci4) (k : Nat) (h : k < L.length) : (padC L k).set k L[k] = padC L (k + 1) := by
  unfold padC
  obtain ⟨m, hm⟩ : ∃ m, L.length - k = m + 1 := ⟨L.length - k - 1, by omega⟩
  rw [hm, show L.length - (k + 1) = m by omega, List.replicate_succ, List.set_append_right _ _ (by simp; omega)]
  have : k - (L.take k).length = 0 := by simp; omega
  rw [this, List.set_cons_zero, List.take_succ_eq_append_getElem h, List.append_assoc]
  rfl
theorem padC_all (L : List Ci4) : padC L L.length = L := by simp [padC]
theorem made_cis (n : Nat) : (madeCells #[Value.int .i64 0, .int .i64 0, .int .i64 0, .int .i64 0] (n * 4)).toList = ciCells (List.replicate n c00) := by
  apply List.ext_getElem
  · rw [Array.length_toList, size_madeCells, ciCells_len, List.length_replicate]
  · intro j h1 h2
    have hj : j < n * 4 := by rw [Array.length_toList, size_madeCells] at h1; exact h1
    have hq : (List.replicate n c00).length = n := by simp
    have ha := ciCells_at (List.replicate n c00) (j / 4) (by simp; omega)
    have h0 : (List.replicate n c00).getD (j / 4) c00 = c00 := by
      rw [List.getD_eq_getElem?_getD, List.getElem?_replicate, if_pos (by omega)]; rfl
    rw [h0] at ha
    have hr : (ciCells (List.replicate n c00))[j]? = some (.int .i64 0) := by
      have h4 : j = j / 4 * 4 + 0 ∨ j = j / 4 * 4 + 1 ∨ j = j / 4 * 4 + 2 ∨ j = j / 4 * 4 + 3 := by omega
      rcases h4 with e | e | e | e <;> rw [e]
      · exact ha.1
      · rw [show (j / 4 * 4 + 1) = j / 4 * 4 + 1 from rfl]; exact ha.2.1
      · exact ha.2.2.1
      · exact ha.2.2.2
    have hl : (madeCells #[Value.int .i64 0, .int .i64 0, .int .i64 0, .int .i64 0] (n * 4)).toList[j]? = some (.int .i64 0) := by
      have h4 : j % 4 = 0 ∨ j % 4 = 1 ∨ j % 4 = 2 ∨ j % 4 = 3 := by omega
      rcases h4 with e | e | e | e <;> simp [madeCells, hj, e]
    have e1 := List.getElem?_eq_getElem h1
    have e2 := List.getElem?_eq_getElem h2
    rw [hl] at e1
    rw [hr] at e2
    exact (Option.some.inj e1).symm.trans (Option.some.inj e2)
theorem add_next (ad : Addr) (n j : Nat) (hj : 0 < j) : ad.add (n + j) = ⟨(ad.add n).block, (ad.add n).off + j, none⟩ := by
  unfold Addr.add
  by_cases hn : n = 0
  · subst hn; simp; omega
  · rw [if_neg (by omega), if_neg hn]; simp; omega
theorem CisA.at {w : World} {a : Option Addr} {n cap : Nat} {L : List Ci4} (h : CisA w (.slice a n cap) L) (k : Nat) (hk : k < L.length) :
    ∃ ad, a = some ad ∧ w.cell? (ad.add (k * 4)) = some (.int .i64 (L.getD k c00).1) ∧ w.cell? ⟨(ad.add (k * 4)).block, (ad.add (k * 4)).off + 1, none⟩ = some (.int .i64 (L.getD k c00).2.1) ∧ w.cell? ⟨(ad.add (k * 4)).block, (ad.add (k * 4)).off + 2, none⟩ = some (.int .i64 (L.getD k c00).2.2.1) ∧ w.cell? ⟨(ad.add (k * 4)).block, (ad.add (k * 4)).off + 3, none⟩ = some (.int .i64 (L.getD k c00).2.2.2) := by
  obtain ⟨a', cap', e, _, hc⟩ := h
  simp only [Value.slice.injEq] at e
  obtain ⟨rfl, _, _⟩ := e
  obtain ⟨ad, rfl, h0, h1, h2, h3⟩ := hc k hk
  rw [add_next _ _ _ (by omega)] at h1 h2 h3
  exact ⟨ad, rfl, h0, h1, h2, h3⟩

end Go.Proofs.Ytoaopmafokoaoaa
