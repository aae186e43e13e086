/- Right triples: steps of the trees, words: arithmetic. -/
import Derived.Test.YtdahhcigphhfdacRi
namespace Go.Proofs.Ytdahhcigphhfdac
open Go.RowKit

/-- A step from a pair to a child. -/
structure St where
  a : Int
  b : Int
  c : Int
  d : Int
def St.det (s : St) : Int := s.a * s.d - s.b * s.c
def kid (s : St) (m n : Int) : Int × Int := (s.a * m + s.b * n, s.c * m + s.d * n)
def bef (s : St) (m n : Int) : Int × Int := ((s.d * m - s.b * n).tdiv s.det, (s.a * n - s.c * m).tdiv s.det)
def okB (s : St) (m n : Int) : Bool := validB (bef s m n).1 (bef s m n).2 && decide (kid s (bef s m n).1 (bef s m n).2 = (m, n))
theorem bef_kid {s : St} {a b m n : Int} (hd : s.det ≠ 0) (h : kid s a b = (m, n)) : bef s m n = (a, b) := by
  unfold kid at h
  rw [Prod.mk.injEq] at h
  obtain ⟨rfl, rfl⟩ := h
  unfold bef
  have e1 : s.d * (s.a * a + s.b * b) - s.b * (s.c * a + s.d * b) = s.det * a := by unfold St.det; grind
  have e2 : s.a * (s.c * a + s.d * b) - s.c * (s.a * a + s.b * b) = s.det * b := by unfold St.det; grind
  rw [e1, e2, Int.mul_tdiv_cancel_left _ hd, Int.mul_tdiv_cancel_left _ hd]
theorem okB_kid {s : St} {a b m n : Int} (hd : s.det ≠ 0) (h : kid s a b = (m, n)) (hv : Valid a b) : okB s m n = true := by
  unfold okB
  rw [bef_kid hd h, validB_iff.2 hv, h]
  simp
theorem okB_some {s : St} {m n : Int} (h : okB s m n = true) : Valid (bef s m n).1 (bef s m n).2 ∧ kid s (bef s m n).1 (bef s m n).2 = (m, n) := by
  unfold okB at h
  rw [Bool.and_eq_true, validB_iff, decide_eq_true_eq] at h
  exact h

/-- What both trees have. -/
structure Tree (T : Nat → St) (C : Int → Int → Int → Int × Int) (U : Int → Int → Int × Int × Int) : Prop where
  ent : ∀ k, -2 ≤ (T k).a ∧ (T k).a ≤ 2 ∧ -2 ≤ (T k).b ∧ (T k).b ≤ 2 ∧ -2 ≤ (T k).c ∧ (T k).c ≤ 2 ∧ -2 ≤ (T k).d ∧ (T k).d ≤ 2
  det : ∀ k, (T k).det ≠ 0
  kid : ∀ (k : Nat) m n, k < 3 → kid (T k) m n = C m n k
  up : ∀ m n, Pair m n → 2 < m → Pair (U m n).1 (U m n).2.1 ∧ C (U m n).1 (U m n).2.1 (U m n).2.2 = (m, n) ∧ (U m n).1 < m
  idx : ∀ m n, 0 ≤ (U m n).2.2 ∧ (U m n).2.2 < 3
  only : ∀ (k : Nat) a b, k < 3 → Valid a b → U (C a b k).1 (C a b k).2 = (a, b, (k : Int)) ∧ 2 < (C a b k).1
def bergT : Nat → St
  | 0 => ⟨2, -1, 1, 0⟩
  | 1 => ⟨2, 1, 1, 0⟩
  | _ => ⟨1, 2, 0, 1⟩
def priceT : Nat → St
  | 0 => ⟨1, 1, 0, 2⟩
  | 1 => ⟨2, 0, 1, -1⟩
  | _ => ⟨2, 0, 1, 1⟩
theorem three {p : Nat → Prop} (h0 : p 0) (h1 : p 1) (h2 : ∀ k, p (k + 2)) : ∀ k, p k
  | 0 => h0
  | 1 => h1
  | k + 2 => h2 k
theorem treeBerg : Tree bergT bergC bergU where
  ent := three (by simp [bergT]) (by simp [bergT]) (fun k => by simp [bergT])
  det := three (by simp [bergT, St.det]) (by simp [bergT, St.det]) (fun k => by simp [bergT, St.det])
  kid := by
    refine three (fun m n _ => ?_) (fun m n _ => ?_) (fun k m n hk => ?_)
    · simp [kid, bergT, bergC]; omega
    · simp [kid, bergT, bergC]
    · obtain rfl : k = 0 := by omega
      simp [kid, bergT, bergC]
  up := fun m n h hm => ⟨(berg_up h hm).1, (berg_up h hm).2.1, (berg_up h hm).2.2.1⟩
  idx := fun m n => by
    unfold bergU
    split
    · simp
    · split <;> (simp)
  only := by
    refine three (fun a b _ h => ?_) (fun a b _ h => ?_) (fun k a b hk h => ?_)
    · have h1 := h.h1
      have h2 := h.h2
      simp only [bergC, Int.natCast_zero, if_pos, bergU]
      rw [if_pos (by omega)]
      exact ⟨by simp <;> omega, by omega⟩
    · have h1 := h.h1
      have h2 := h.h2
      simp only [bergC, bergU, Int.natCast_one, Int.one_ne_zero, if_false, if_true]
      rw [if_neg (by omega), if_pos (by omega)]
      exact ⟨by simp <;> omega, by omega⟩
    · obtain rfl : k = 0 := by omega
      have h1 := h.h1
      have h2 := h.h2
      have e : bergC a b ((0 + 2 : Nat) : Int) = (a + 2 * b, b) := by simp [bergC]
      rw [e]
      simp only [bergU]
      rw [if_neg (by omega), if_neg (by omega)]
      exact ⟨by simp, by omega⟩
theorem treePrice : Tree priceT priceC priceU where
  ent := three (by simp [priceT]) (by simp [priceT]) (fun k => by simp [priceT])
  det := three (by simp [priceT, St.det]) (by simp [priceT, St.det]) (fun k => by simp [priceT, St.det])
  kid := by
    refine three (fun m n _ => ?_) (fun m n _ => ?_) (fun k m n hk => ?_)
    · simp [kid, priceT, priceC]
    · simp [kid, priceT, priceC]; omega
    · obtain rfl : k = 0 := by omega
      simp [kid, priceT, priceC]
  up := fun m n h hm => price_up h hm
  idx := fun m n => by
    unfold priceU
    split
    · simp
    · split <;> (simp)
  only := by
    refine three (fun a b _ h => ?_) (fun a b _ h => ?_) (fun k a b hk h => ?_)
    · have h1 := h.h1
      have h2 := h.h2
      simp only [priceC, Int.natCast_zero, if_pos, priceU]
      rw [if_pos (by omega)]
      exact ⟨by simp <;> omega, by omega⟩
    · have h1 := h.h1
      have h2 := h.h2
      have h4 := h.h4
      simp only [priceC, priceU, Int.natCast_one, Int.one_ne_zero, if_false, if_true]
      rw [if_neg (by omega), if_pos (by omega)]
      exact ⟨by simp <;> omega, by omega⟩
    · obtain rfl : k = 0 := by omega
      have h1 := h.h1
      have h2 := h.h2
      have h4 := h.h4
      have e : priceC a b ((0 + 2 : Nat) : Int) = (2 * a, a + b) := by simp [priceC]
      rw [e]
      simp only [priceU]
      rw [if_neg (by omega), if_neg (by omega)]
      exact ⟨by simp <;> omega, by omega⟩

section
variable {T : Nat → St} {C : Int → Int → Int → Int × Int} {U : Int → Int → Int × Int × Int}
/-- One step alone leads back. -/
theorem Tree.ok_only (t : Tree T C U) {m n : Int} {k : Nat} (hk : k < 3) (h : okB (T k) m n = true) : U m n = ((bef (T k) m n).1, (bef (T k) m n).2, (k : Int)) ∧ 2 < m := by
  obtain ⟨hv, he⟩ := okB_some h
  have := t.only k _ _ hk hv
  rw [← t.kid k _ _ hk, he] at this
  exact this
theorem Tree.none (t : Tree T C U) {m n : Int} (hm : m ≤ 2) (j : Nat) (hj : j < 3) : okB (T j) m n = false := by
  cases h : okB (T j) m n
  · rfl
  · have := (t.ok_only hj h).2; omega
theorem Tree.some (t : Tree T C U) {m n : Int} (h : Pair m n) (hm : 2 < m) : ∃ k : Nat, k < 3 ∧ (U m n).2.2 = (k : Int) ∧ bef (T k) m n = ((U m n).1, (U m n).2.1) ∧ okB (T k) m n = true ∧ ∀ j, j < k → okB (T j) m n = false := by
  obtain ⟨i1, i2⟩ := t.idx m n
  obtain ⟨k, hk⟩ : ∃ k : Nat, (U m n).2.2 = (k : Int) := ⟨(U m n).2.2.toNat, by omega⟩
  obtain ⟨u1, u2, u3⟩ := t.up m n h hm
  have hk3 : k < 3 := by omega
  rw [hk, ← t.kid k _ _ hk3] at u2
  refine ⟨k, hk3, hk, bef_kid (t.det k) u2, okB_kid (t.det k) u2 u1.toValid, fun j hj => ?_⟩
  cases h2 : okB (T j) m n
  · rfl
  · have := (t.ok_only (by omega) h2).1
    rw [this] at hk
    simp only at hk
    omega

/-! ### words -/

/-- The numbers of the children on the way from a pair to the root. -/
def riwF (U : Int → Int → Int × Int × Int) : Nat → Int → Int → List Int
  | 0, _, _ => []
  | f + 1, m, n => if m ≤ 2 then [] else (U m n).2.2 :: riwF U f (U m n).1 (U m n).2.1
def riwL (U : Int → Int → Int × Int × Int) (m n : Int) : List Int := riwF U m.toNat m n
theorem Tree.riwF_eq (t : Tree T C U) (f : Nat) : ∀ (g : Nat) (m n : Int), Pair m n → m.toNat ≤ f → m.toNat ≤ g → riwF U f m n = riwF U g m n := by
  induction f with
  | zero => intro g m n h hf; have := h.h1; have := h.h2; omega
  | succ f ih =>
    intro g m n h hf hg
    cases g with
    | zero => have := h.h1; have := h.h2; omega
    | succ g =>
      unfold riwF
      split
      · rfl
      · rename_i hm
        obtain ⟨u1, _, u3⟩ := t.up m n h (by omega)
        rw [ih g _ _ u1 (by omega) (by omega)]
theorem Tree.riwL_step (t : Tree T C U) {m n : Int} (h : Pair m n) (hm : 2 < m) : riwL U m n = (U m n).2.2 :: riwL U (U m n).1 (U m n).2.1 := by
  obtain ⟨u1, _, u3⟩ := t.up m n h hm
  obtain ⟨f, hf⟩ : ∃ f, m.toNat = f + 1 := ⟨m.toNat - 1, by omega⟩
  unfold riwL
  rw [hf]
  show (if m ≤ 2 then [] else _) = _
  rw [if_neg (by omega), t.riwF_eq f (U m n).1.toNat _ _ u1 (by omega) (Nat.le_refl _)]
theorem riwL_root (m n : Int) (hm : m ≤ 2) : riwL U m n = [] := by
  unfold riwL
  cases m.toNat with
  | zero => rfl
  | succ f => show (if m ≤ 2 then [] else _) = _; rw [if_pos hm]
end

/-- The pair behind the children of a word, if all triples on the way are such. -/
def foldP (C : Int → Int → Int → Int × Int) : List Int → Int → Int → Option (Int × Int)
  | [], m, n => some (m, n)
  | k :: ks, m, n => if pairB (C m n k).1 (C m n k).2 = true then foldP C ks (C m n k).1 (C m n k).2 else none
end Go.Proofs.Ytdahhcigphhfdac
