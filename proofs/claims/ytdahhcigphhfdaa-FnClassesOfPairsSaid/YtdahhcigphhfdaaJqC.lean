/- Runs of whole quotients: what each pair has, where a run ends. -/
import Derived.Test.YtdahhcigphhfdaaJqA
namespace Go.Proofs.Ytdahhcigphhfdaa
open Go.RowKit

def atJ (L : List Jp2) (i : Nat) : Jp2 := L.getD i (0, 0)
theorem atJ_zero (p : Jp2) (L : List Jp2) : atJ (p :: L) 0 = p := rfl
theorem atJ_succ (p : Jp2) (L : List Jp2) (i : Nat) : atJ (p :: L) (i + 1) = atJ L i := by simp [atJ]
theorem runJ_next (f : Jp2 → Option Jp2) : ∀ (n : Nat) (p : Jp2) (i : Nat), i + 1 < (runJ f n p).length → f (atJ (runJ f n p) i) = some (atJ (runJ f n p) (i + 1))
  | 0, p, i, h => by simp [runJ] at h
  | n + 1, p, i, h => by
    cases hf : f p with
    | none => rw [runJ_none hf] at h; simp at h
    | some q =>
      rw [runJ_some hf] at h ⊢
      cases i with
      | zero =>
        rw [atJ_zero, atJ_succ, hf]
        cases n with
        | zero => simp [runJ] at h
        | succ n => rfl
      | succ i =>
        rw [atJ_succ, atJ_succ]
        exact runJ_next f n q i (by simp at h; omega)
theorem runJ_all {f : Jp2 → Option Jp2} {P : Jp2 → Prop} (hf : ∀ p q, P p → f p = some q → P q) : ∀ (n : Nat) (p : Jp2), P p → ∀ i, i < (runJ f n p).length → P (atJ (runJ f n p) i)
  | 0, p, _, i, h => by simp [runJ] at h
  | n + 1, p, hp, i, h => by
    cases hq : f p with
    | none =>
      rw [runJ_none hq] at h ⊢
      have : i = 0 := by simp at h; omega
      subst this; exact hp
    | some q =>
      rw [runJ_some hq] at h ⊢
      cases i with
      | zero => exact hp
      | succ i => rw [atJ_succ]; exact runJ_all hf n q (hf p q hp hq) i (by simp at h; omega)
theorem runJ_last (f : Jp2 → Option Jp2) : ∀ (n : Nat) (p : Jp2), (runJ f n p).length < n → f (atJ (runJ f n p) ((runJ f n p).length - 1)) = none
  | 0, p, h => by simp [runJ] at h
  | n + 1, p, h => by
    cases hq : f p with
    | none => rw [runJ_none hq]; exact hq
    | some q =>
      rw [runJ_some hq] at h ⊢
      have ih := runJ_last f n q (by simp at h; omega)
      cases n with
      | zero => simp [runJ] at h
      | succ n =>
        have hp := runJ_pos f n q
        rw [List.length_cons, show (runJ f (n + 1) q).length + 1 - 1 = ((runJ f (n + 1) q).length - 1) + 1 by omega, atJ_succ]
        exact ih
def QJ (q : Int) (p : Jp2) : Prop := QP q p.1 p.2 ∧ p.1 ≤ 1000000
theorem QJ.quo {q : Int} {p : Jp2} (h : QJ q p) : quoJ p.1 p.2 = some q := by
  obtain ⟨⟨h1, h2, h3, h4⟩, h5⟩ := h
  rw [quoJ_eq ⟨by omega, h5⟩ ⟨h1, by omega⟩ (by omega), h4]
  have hm : 0 ≤ p.1 * p.2 := Int.mul_nonneg (by omega) h1
  rw [if_pos (Int.mul_tmod_left q (p.1 * p.2 + 1)), Int.mul_tdiv_cancel q (by omega)]
theorem QJ.dn {q : Int} (p r : Jp2) (h : QJ q p) (e : dnJ q p = some r) : QJ q r := by
  obtain ⟨h1, h2⟩ := h
  obtain ⟨rfl, hz⟩ := h1.dn r e
  obtain ⟨g1, g2⟩ := h1.step hz
  exact ⟨g2, by have := h1.2.1; simp only; omega⟩
theorem QJ.up {k : Int} (p r : Jp2) (h : QJ k p) (e : upJ k p = some r) : QJ k r := by
  obtain ⟨⟨h1, h2, h3, h4⟩, h5⟩ := h
  unfold upJ at e
  split at e
  · rename_i hh
    injection e with e
    subst e
    obtain ⟨x, y⟩ := p
    simp only at *
    refine ⟨⟨by simp only; omega, by simp only; omega, by simp only; omega, ?_⟩, by simp only; omega⟩
    simp only
    grind
  · cases e
theorem QJ.root {q : Int} {p : Jp2} (h : QJ q p) (e : dnJ q p = none) : p.2 = 0 ∧ p.1 * p.1 = q := by
  obtain ⟨hq, h5⟩ := h
  obtain ⟨x, y⟩ := p
  simp only at hq h5 ⊢
  have hpos := hq.pos
  have hz : q * y - x < 0 := by
    by_cases hz : q * y - x < 0
    · exact hz
    · obtain ⟨g1, _⟩ := hq.step (by omega)
      have := hq.2.1
      unfold dnJ at e
      simp only at e
      rw [if_pos ⟨by omega, by omega⟩] at e
      cases e
  obtain ⟨h1, h2, h3, h4⟩ := hq
  have hy : y = 0 := by
    by_cases hy : y = 0
    · exact hy
    · have e1 : x * (x - q * y) = q - y * y := by grind
      have e2 : x * 1 ≤ x * (x - q * y) := Int.mul_le_mul_of_nonneg_left (by omega) (by omega)
      have e3 : q * 1 ≤ q * y := Int.mul_le_mul_of_nonneg_left (by omega) (by omega)
      have e4 : 0 ≤ y * y := Int.mul_nonneg h1 h1
      omega
  subst hy
  exact ⟨rfl, by simpa using h4⟩
/-- What the run of two numbers with a whole quotient has. -/
structure RunJ (q : Int) (L : List Jp2) : Prop where
  pos : 0 < L.length
  short : L.length ≤ 21
  each : ∀ i, i < L.length → QJ q (atJ L i)
  falls : ∀ i, i + 1 < L.length → (atJ L (i + 1)).1 + (atJ L (i + 1)).2 < (atJ L i).1 + (atJ L i).2
  last0 : (atJ L (L.length - 1)).2 = 0
  last1 : (atJ L (L.length - 1)).1 * (atJ L (L.length - 1)).1 = q
theorem run_facts {a b q : Int} (h : quoJ a b = some q) : RunJ q (dnRun q (mxJ a b, mnJ a b)) := by
  obtain ⟨h1, h2, _, hN, _⟩ := quo_QP h
  have hQ : QJ q (mxJ a b, mnJ a b) := ⟨h1, h2⟩
  have hs := h1.short h2 1001
  have hp : 1 ≤ (runJ (dnJ q) 1001 (mxJ a b, mnJ a b)).length := runJ_pos (dnJ q) 1000 (mxJ a b, mnJ a b)
  have hall := runJ_all (f := dnJ q) (P := QJ q) (fun p r => QJ.dn p r) 1001 _ hQ
  have hlast := (hall _ (show (runJ (dnJ q) 1001 (mxJ a b, mnJ a b)).length - 1 < _ by omega)).root (runJ_last (dnJ q) 1001 _ (by omega))
  refine ⟨by unfold dnRun; omega, hs, hall, fun i hi => ?_, hlast.1, hlast.2⟩
  have hn := runJ_next (dnJ q) 1001 _ i hi
  have hi2 := hall i (Nat.lt_of_succ_lt hi)
  exact (dnJ_good (k := q) ⟨hi2.1.1, hi2.1.2.1, hi2.2⟩ hn).2
/-- What the first pairs of a quotient have. -/
structure UpsJ (k : Int) (L : List Jp2) : Prop where
  short : L.length ≤ 20
  each : ∀ i, i < L.length → QJ k (atJ L i)
  next : ∀ i, i + 1 < L.length → (atJ L (i + 1)).2 = (atJ L i).1
theorem ups_facts {q : Int} (h1 : 1 ≤ q) (h2 : q ≤ 100) (n : Nat) (hn : n ≤ 20) : UpsJ (q * q) (upRun (q * q) n (q, 0)) := by
  have hQ : QJ (q * q) (q, 0) := ⟨⟨by simp only; omega, by simp only; omega, by simp only; omega, by simp only; grind⟩, by simp only; omega⟩
  refine ⟨Nat.le_trans (runJ_len _ _ _) hn, runJ_all (fun p r => QJ.up p r) n _ hQ, fun i hi => ?_⟩
  have hn := runJ_next (upJ (q * q)) n _ i hi
  have hi0 : upRun (q * q) n (q, 0) = runJ (upJ (q * q)) n (q, 0) := rfl
  rw [hi0]
  obtain ⟨L, hL⟩ : ∃ L, runJ (upJ (q * q)) n (q, 0) = L := ⟨_, rfl⟩
  rw [hL] at hn ⊢
  unfold upJ at hn
  split at hn
  · injection hn with hn
    rw [← hn]
  · cases hn
end Go.Proofs.Ytdahhcigphhfdaa
