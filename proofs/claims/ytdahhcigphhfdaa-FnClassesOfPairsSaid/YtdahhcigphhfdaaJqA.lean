/- Whole quotients: arithmetic; runs of such pairs are short. -/
import Derived.Test.YtdahhcigphhfdaaJp
namespace Go.Proofs.Ytdahhcigphhfdaa
open Go.RowKit

/-- Two numbers with the whole quotient q. -/
def QP (q x y : Int) : Prop := 0 ≤ y ∧ y ≤ x ∧ 1 ≤ x ∧ x * x + y * y = q * (x * y + 1)
theorem QP.pos {q x y : Int} (h : QP q x y) : 1 ≤ q := by
  obtain ⟨h1, h2, h3, h4⟩ := h
  by_cases hq : 1 ≤ q
  · exact hq
  · have a1 : 0 < x * x := Int.mul_pos (by omega) (by omega)
    have a2 : 0 ≤ y * y := Int.mul_nonneg h1 h1
    have a3 : 0 ≤ x * y := Int.mul_nonneg (by omega) h1
    have a4 : q * (x * y + 1) ≤ 0 := Int.mul_nonpos_of_nonpos_of_nonneg (by omega) (by omega)
    omega
theorem QP.step {q x y : Int} (h : QP q x y) (hz : 0 ≤ q * y - x) : q * y - x < y ∧ QP q y (q * y - x) := by
  have hq := h.pos
  obtain ⟨h1, h2, h3, h4⟩ := h
  have hy : 1 ≤ y := by
    by_cases hy : 1 ≤ y
    · exact hy
    · have : y = 0 := by omega
      subst this
      simp at hz
      omega
  have e : x * (q * y - x) = y * y - q := by grind
  have e2 : y * y + (q * y - x) * (q * y - x) = q * (y * (q * y - x) + 1) := by grind
  generalize q * y - x = z at *
  have hlt : z < y := by
    by_cases hlt : z < y
    · exact hlt
    · have a1 : y * y ≤ x * z := Int.mul_le_mul h2 (by omega) (by omega) (by omega)
      omega
  exact ⟨hlt, hz, by omega, hy, e2⟩
theorem QP.dn {q x y : Int} (h : QP q x y) (p : Jp2) (e : dnJ q (x, y) = some p) : p = (y, q * y - x) ∧ 0 ≤ q * y - x := by
  unfold dnJ at e
  simp only at e
  split at e
  · rename_i hh
    obtain ⟨g1, _⟩ := h.step hh.1
    rw [if_pos g1] at e
    injection e with e
    exact ⟨e.symm, hh.1⟩
  · cases e
theorem QP.two {x y : Int} (h : QP 2 x y) : False := by
  obtain ⟨h1, h2, h3, h4⟩ := h
  have e : (x - y) * (x - y) = 2 := by grind
  generalize x - y = d at e
  have hd : d ≤ 1 ∨ 2 ≤ d := by omega
  rcases hd with hd | hd
  · rcases (show d ≤ -2 ∨ d = -1 ∨ d = 0 ∨ d = 1 by omega) with h | h | h | h
    · have := Int.mul_le_mul (show (2 : Int) ≤ -d by omega) (show (2 : Int) ≤ -d by omega) (by omega) (by omega)
      rw [Int.neg_mul_neg] at this
      omega
    · subst h; omega
    · subst h; omega
    · subst h; omega
  · have := Int.mul_le_mul hd hd (by omega) (by omega)
    omega
theorem QP.one {x y : Int} (h : QP 1 x y) : x = 1 := by
  obtain ⟨h1, h2, h3, h4⟩ := h
  have e : (x - y) * (x - y) + x * y = 1 := by grind
  have a1 : 0 ≤ (x - y) * (x - y) := Int.mul_nonneg (by omega) (by omega)
  rcases (show y = 0 ∨ 1 ≤ y by omega) with hy | hy
  · subst hy
    simp at e
    by_cases hx : x = 1
    · exact hx
    · have := Int.mul_le_mul (show (2 : Int) ≤ x by omega) (show (2 : Int) ≤ x by omega) (by omega) (by omega)
      omega
  · have := Int.mul_le_mul (show x ≤ x by omega) hy (by omega) (by omega)
    omega
theorem QP.short3 {q : Int} (hq : 3 ≤ q) (m : Nat) : ∀ (n : Nat) (x y : Int), QP q x y → x < (2 : Int) ^ n → (runJ (dnJ q) m (x, y)).length ≤ n + 1 := by
  induction m with
  | zero => intro n x y _ _; simp [runJ]
  | succ m ih =>
    intro n x y h hx
    cases hd : dnJ q (x, y) with
    | none => rw [runJ_none hd]; simp
    | some p =>
      obtain ⟨rfl, hz⟩ := h.dn p hd
      obtain ⟨g1, g2⟩ := h.step hz
      rw [runJ_some hd, List.length_cons]
      obtain ⟨h1, h2, h3, h4⟩ := h
      have h5 : 2 * y ≤ x := by
        have : 3 * y ≤ q * y := Int.mul_le_mul_of_nonneg_right hq h1
        omega
      cases n with
      | zero => simp at hx; omega
      | succ n =>
        have := ih n y (q * y - x) g2 (by rw [Int.pow_succ] at hx; omega)
        omega
theorem QP.short {q x y : Int} (h : QP q x y) (hx : x ≤ 1000000) (m : Nat) : (runJ (dnJ q) m (x, y)).length ≤ 21 := by
  have hq := h.pos
  rcases (show q = 1 ∨ q = 2 ∨ 3 ≤ q by omega) with e | e | e
  · subst e
    obtain rfl := h.one
    rcases (show y = 0 ∨ y = 1 by have := h.1; have := h.2.1; omega) with e | e
    · subst e
      have : dnJ 1 (1, 0) = none := by decide
      cases m with
      | zero => simp [runJ]
      | succ m => rw [runJ_none this]; simp
    · subst e
      have h1 : dnJ 1 (1, 1) = some (1, 0) := by decide
      have h2 : dnJ 1 (1, 0) = none := by decide
      cases m with
      | zero => simp [runJ]
      | succ m =>
        rw [runJ_some h1]
        cases m with
        | zero => simp [runJ]
        | succ m => rw [runJ_none h2]; simp
  · subst e; exact h.two.elim
  · exact QP.short3 e m 20 x y h (by omega)
theorem quoJ_some {a b q : Int} (h : quoJ a b = some q) : 0 ≤ a ∧ a ≤ 1000000 ∧ 0 ≤ b ∧ b ≤ 1000000 ∧ ¬ (a = 0 ∧ b = 0) ∧ a * a + b * b = q * (a * b + 1) := by
  unfold quoJ at h
  split at h
  · rename_i hh
    obtain ⟨h1, h2, h3, h4, h5, h6⟩ := hh
    injection h with h
    refine ⟨h1, h2, h3, h4, h5, ?_⟩
    have := (dvd_tdiv (a * a + b * b) (a * b + 1)).1 h6
    rw [h] at this
    exact this.symm
  · cases h
theorem quoJ_comm (a b : Int) : quoJ a b = quoJ b a := by
  unfold quoJ
  rw [Int.mul_comm b a, Int.add_comm (b * b) (a * a)]
  by_cases h : 0 ≤ a ∧ a ≤ 1000000 ∧ 0 ≤ b ∧ b ≤ 1000000 ∧ ¬ (a = 0 ∧ b = 0) ∧ (a * a + b * b).tmod (a * b + 1) = 0
  · rw [if_pos h, if_pos ⟨h.2.2.1, h.2.2.2.1, h.1, h.2.1, fun hh => h.2.2.2.2.1 ⟨hh.2, hh.1⟩, h.2.2.2.2.2⟩]
  · rw [if_neg h, if_neg fun hh => h ⟨hh.2.2.1, hh.2.2.2.1, hh.1, hh.2.1, fun h2 => hh.2.2.2.2.1 ⟨h2.2, h2.1⟩, hh.2.2.2.2.2⟩]
/-- The greater one and the lesser one. -/
def mxJ (a b : Int) : Int := if a < b then b else a
def mnJ (a b : Int) : Int := if a < b then a else b
theorem quo_QP {a b q : Int} (h : quoJ a b = some q) : QP q (mxJ a b) (mnJ a b) ∧ mxJ a b ≤ 1000000 ∧ quoJ (mxJ a b) (mnJ a b) = some q ∧ juN (mxJ a b) (mnJ a b) = true ∧ 0 ≤ q ∧ q ≤ 1000000000000 := by
  obtain ⟨h1, h2, h3, h4, h5, h6⟩ := quoJ_some h
  have hq : QP q (mxJ a b) (mnJ a b) := by
    unfold mxJ mnJ
    split
    · exact ⟨h1, by omega, by omega, by rw [Int.mul_comm b a]; omega⟩
    · exact ⟨h3, by omega, by omega, h6⟩
  have hm : mxJ a b ≤ 1000000 := by unfold mxJ; split <;> omega
  have hp := hq.pos
  refine ⟨hq, hm, ?_, ?_, by omega, ?_⟩
  · unfold mxJ mnJ
    split
    · rw [quoJ_comm]; exact h
    · exact h
  · exact juN_iff.2 ⟨hq.1, hq.2.1, hm⟩
  · unfold quoJ at h
    split at h
    · injection h with h
      obtain ⟨q1, q2⟩ := sqBd (x := a) ⟨h1, h2⟩
      obtain ⟨q3, q4⟩ := sqBd (x := b) ⟨h3, h4⟩
      by_cases hb : q ≤ 1000000000000
      · exact hb
      · obtain ⟨r1, r2, r3, r4⟩ := hq
        obtain ⟨x, hx⟩ : ∃ x, mxJ a b = x := ⟨_, rfl⟩
        obtain ⟨y, hy⟩ : ∃ y, mnJ a b = y := ⟨_, rfl⟩
        rw [hx] at r2 r3 r4 hm
        rw [hy] at r1 r2 r4
        have s1 : x * x ≤ 1000000 * x := Int.mul_le_mul_of_nonneg_right hm (by omega)
        have s2 : y * y ≤ x * y := Int.mul_le_mul_of_nonneg_right r2 r1
        have s3 : 0 ≤ x * y := Int.mul_nonneg (by omega) r1
        have s4 : 1 * (x * y) ≤ q * (x * y) := Int.mul_le_mul_of_nonneg_right hp s3
        have s5 : q * (x * y + 1) = q * (x * y) + q := by rw [Int.mul_add, Int.mul_one]
        omega
    · cases h
def qrAns (a b : Int) : Option (List (List Int)) := match quoJ a b with | none => none | some q => toldJ (dnRun q (mxJ a b, mnJ a b))
theorem qr_told {a b q : Int} (h : quoJ a b = some q) : toldJ (dnRun q (mxJ a b, mnJ a b)) = some ((dnRun q (mxJ a b, mnJ a b)).map jpL) := by
  obtain ⟨h1, h2, _⟩ := quo_QP h
  unfold toldJ
  rw [if_pos]
  have := h1.short h2 1001
  unfold dnRun
  omega
def qpAns (q c : Int) : Option (List (List Int)) := if 1 ≤ q ∧ q ≤ 100 ∧ 0 ≤ c ∧ c ≤ 20 then some ((upRun (q * q) c.toNat (q, 0)).map jpL) else none
end Go.Proofs.Ytdahhcigphhfdaa
