/- Four curvatures: which quads with an outer circle are roots. -/
import Derived.Test.YtoaopmafokoaoabQdGR
namespace Go.Proofs.Ytoaopmafokoaoab
open Go.RowKit

/-- what is tried: the three least numbers and half of the root -/
def triedQ (n b c h : Int) : List Int := [-n, b, c, b + c - n - 2 * h]
theorem tried_eq (n b c h : Int) : 2 * qsq (triedQ n b c h) = (triedQ n b c h).sum * (triedQ n b c h).sum ↔ h * h = b * c - n * (b + c) := by
  unfold triedQ
  rw [qsq4, sum4]
  have e : (-n + b + c + (b + c - n - 2 * h)) * (-n + b + c + (b + c - n - 2 * h)) - 2 * (-n * -n + b * b + c * c + (b + c - n - 2 * h) * (b + c - n - 2 * h)) = 4 * (b * c - n * (b + c)) - 4 * (h * h) := by grind
  omega
/-- a quad that does not fall, is its own root -/
theorem tried_root {n b c h : Int} (hn : 0 < n) (hb : n < b) (hc : b ≤ c) (hh : 0 ≤ h) (h2 : 2 * h ≤ b - n) : lastQ (triedQ n b c h) = true ∧ sortQ (triedQ n b c h) = triedQ n b c h := by
  constructor
  · have hm := gTo_max (triedQ n b c h) (triedQ n b c h).length
    have hl := gTo_least (triedQ n b c h) (triedQ n b c h).length
    have hg := gTo_lt (triedQ n b c h) (triedQ n b c h).length (by simp [triedQ])
    change ∀ j, j < _ → _ ≤ (triedQ n b c h).getD (gIx (triedQ n b c h)) 0 at hm
    change ∀ j, j < gIx (triedQ n b c h) → _ at hl
    change gIx (triedQ n b c h) < 4 at hg
    unfold lastQ
    obtain ⟨e0, e1, e2, e3⟩ := swN4 (-n) b c (b + c - n - 2 * h)
    change swN (triedQ n b c h) 0 = _ at e0
    change swN (triedQ n b c h) 1 = _ at e1
    change swN (triedQ n b c h) 2 = _ at e2
    change swN (triedQ n b c h) 3 = _ at e3
    have m3 := hm 3 (by simp [triedQ])
    have g0 : (triedQ n b c h).getD 0 0 = -n := rfl
    have g1 : (triedQ n b c h).getD 1 0 = b := rfl
    have g2 : (triedQ n b c h).getD 2 0 = c := rfl
    have g3 : (triedQ n b c h).getD 3 0 = b + c - n - 2 * h := rfl
    have h4 : gIx (triedQ n b c h) = 0 ∨ gIx (triedQ n b c h) = 1 ∨ gIx (triedQ n b c h) = 2 ∨ gIx (triedQ n b c h) = 3 := by omega
    apply decide_eq_true
    rcases h4 with h4 | h4 | h4 | h4 <;> rw [h4] at m3 ⊢
    · omega
    · omega
    · omega
    · omega
  · unfold sortQ
    apply List.mergeSort_of_pairwise
    simp only [triedQ, List.pairwise_cons, List.mem_cons, List.not_mem_nil, or_false, decide_eq_true_eq]
    simp
    omega
theorem tried_bd {n b c : Int} (hn : 1 ≤ n ∧ n ≤ 30) (hb : n < b ∧ b ≤ 3 * n) (hbc : b ≤ c) (hc : 4 * c * (b - n) ≤ (b + n) * (b + n)) : c ≤ 3600 := by
  have h1 : c * 1 ≤ c * (b - n) := Int.mul_le_mul_of_nonneg_left (by omega) (by omega)
  have h2 : (b + n) * (b + n) ≤ 120 * 120 := Int.mul_le_mul (by omega) (by omega) (by omega) (by omega)
  have h3 : 4 * c * (b - n) = 4 * (c * (b - n)) := by grind
  omega
/-- how far c goes: the program's bound and the model's are one -/
theorem bound_eq (n b c : Int) : (4 * c * (b - n) ≤ (b + n) * (b + n)) ↔ 4 * (b * c - n * (b + c)) ≤ (b - n) * (b - n) := by
  have e : (b + n) * (b + n) - 4 * c * (b - n) = (b - n) * (b - n) - 4 * (b * c - n * (b + c)) := by grind
  omega
/-- no c at b = 3 n -/
theorem bound_last {n c : Int} (hn : 1 ≤ n) (hc : 3 * n ≤ c) : ¬ 4 * c * (3 * n - n) ≤ (3 * n + n) * (3 * n + n) := by
  have h1 : 3 * n * n ≤ c * n := Int.mul_le_mul_of_nonneg_right hc (by omega)
  have h2 : 4 * c * (3 * n - n) = 8 * (c * n) := by grind
  have h3 : (3 * n + n) * (3 * n + n) = 16 * (n * n) := by grind
  have h4 : 3 * n * n = 3 * (n * n) := by grind
  have h5 : 1 * 1 ≤ n * n := Int.mul_le_mul hn hn (by omega) (by omega)
  omega
/-- half of the root is not too great -/
theorem half_le {n b h : Int} {s : Int} (hb : n ≤ b) (hh : 0 ≤ h) (he : h * h ≤ s) (hs : 4 * s ≤ (b - n) * (b - n)) : 2 * h ≤ b - n := by
  rcases Int.lt_or_le (b - n) (2 * h) with hx | hx
  · exfalso
    have h1 : (b - n + 1) * (b - n + 1) ≤ (2 * h) * (2 * h) := Int.mul_le_mul (by omega) (by omega) (by omega) (by omega)
    have h2 : (b - n + 1) * (b - n + 1) = (b - n) * (b - n) + 2 * (b - n) + 1 := by grind
    have h3 : (2 * h) * (2 * h) = 4 * (h * h) := by grind
    omega
  · exact hx

/-! ### the roots with an outer circle -/

/-- the square root of what is not less than 0 (0 else), as the program's RootOf answers -/
def rootZ (x : Int) : Int := (rootN x.toNat : Int)
/-- the roots for b and one c -/
def rootAt (n b c : Int) : List (List Int) := if apB (triedQ n b c (rootZ (b * c - n * (b + c)))) = true ∧ gcdL (triedQ n b c (rootZ (b * c - n * (b + c)))) = 1 then [triedQ n b c (rootZ (b * c - n * (b + c)))] else []
/-- those for b, from c on -/
def rootsC (n b : Int) : Nat → Int → List (List Int)
  | 0, _ => []
  | k + 1, c => if 4 * c * (b - n) ≤ (b + n) * (b + n) then rootAt n b c ++ rootsC n b k (c + 1) else []
def rootsB (n b : Int) : List (List Int) := rootsC n b 4000 b
def rootsTo (n : Int) (k : Nat) : List (List Int) := (List.range k).flatMap fun j : Nat => rootsB n (n + 1 + (j : Int))
def rootsN (n : Int) : List (List Int) := rootsTo n (2 * n - 1).toNat
theorem rootsTo_succ (n : Int) (k : Nat) : rootsTo n (k + 1) = rootsTo n k ++ rootsB n (n + 1 + k) := by
  unfold rootsTo; rw [List.range_succ, List.flatMap_append]; simp
theorem rootsB_last {n : Int} (hn : 1 ≤ n) : rootsB n (3 * n) = [] := by
  unfold rootsB
  rw [rootsC, if_neg (bound_last hn (Int.le_refl _))]
theorem rootsTo_last {n : Int} (hn : 1 ≤ n) : rootsTo n ((2 * n - 1).toNat + 1) = rootsN n := by
  rw [rootsTo_succ, show n + 1 + ((2 * n - 1).toNat : Int) = 3 * n by omega, rootsB_last hn, List.append_nil]; rfl

theorem rootZ_nn (x : Int) : 0 ≤ rootZ x := by unfold rootZ; omega
theorem rootZ_sq (x : Int) (hx : 0 ≤ x) : rootZ x * rootZ x ≤ x := by
  have h := (rootN_spec x.toNat).1
  unfold rootZ
  rw [← Int.natCast_mul]; omega
theorem apB_eq {zs : List Int} (h : apB zs = true) : 2 * qsq zs = zs.sum * zs.sum := by
  simp only [apB, Bool.and_eq_true, decide_eq_true_eq] at h
  exact h.2.2
/-- a quad that is tried has half of the root in it, and is a root that does not fall -/
theorem tried_good {n b c : Int} (hn : 1 ≤ n) (hb : n < b) (hbc : b ≤ c) (hc : 4 * c * (b - n) ≤ (b + n) * (b + n)) (h : apB (triedQ n b c (rootZ (b * c - n * (b + c)))) = true) :
    rootZ (b * c - n * (b + c)) * rootZ (b * c - n * (b + c)) = b * c - n * (b + c) ∧ lastQ (triedQ n b c (rootZ (b * c - n * (b + c)))) = true ∧ sortQ (triedQ n b c (rootZ (b * c - n * (b + c)))) = triedQ n b c (rootZ (b * c - n * (b + c))) := by
  have he := (tried_eq n b c (rootZ (b * c - n * (b + c)))).1 (apB_eq h)
  have h0 := rootZ_nn (b * c - n * (b + c))
  refine ⟨he, tried_root (by omega) hb hbc h0 ?_⟩
  exact half_le (by omega) h0 (Int.le_of_eq he) ((bound_eq n b c).1 hc)
theorem rootZ_neg {x : Int} (hx : x < 0) : rootZ x = 0 := by
  unfold rootZ
  rw [show x.toNat = 0 by omega]; rfl
theorem tried_neg {n b c : Int} (hx : b * c - n * (b + c) < 0) : apB (triedQ n b c (rootZ (b * c - n * (b + c)))) = false := by
  cases hf : apB (triedQ n b c (rootZ (b * c - n * (b + c))))
  · rfl
  · exfalso
    have he := (tried_eq n b c (rootZ (b * c - n * (b + c)))).1 (apB_eq hf)
    rw [rootZ_neg hx] at he
    omega
theorem tried_nosq {n b c : Int} (hx : rootZ (b * c - n * (b + c)) * rootZ (b * c - n * (b + c)) ≠ b * c - n * (b + c)) : apB (triedQ n b c (rootZ (b * c - n * (b + c)))) = false := by
  cases hf : apB (triedQ n b c (rootZ (b * c - n * (b + c))))
  · rfl
  · exact absurd ((tried_eq n b c (rootZ (b * c - n * (b + c)))).1 (apB_eq hf)) hx
theorem rootAt_no {n b c : Int} (h : apB (triedQ n b c (rootZ (b * c - n * (b + c)))) = false) : rootAt n b c = [] := by
  unfold rootAt
  rw [h]; simp
/-- the bound is passed for good -/
theorem bound_mono {n b c c' : Int} (hb : n < b) (hc : c ≤ c') (h : ¬ 4 * c * (b - n) ≤ (b + n) * (b + n)) : ¬ 4 * c' * (b - n) ≤ (b + n) * (b + n) := by
  have h1 : c * (b - n) ≤ c' * (b - n) := Int.mul_le_mul_of_nonneg_right hc (by omega)
  have h2 : 4 * c * (b - n) = 4 * (c * (b - n)) := by grind
  have h3 : 4 * c' * (b - n) = 4 * (c' * (b - n)) := by grind
  omega
end Go.Proofs.Ytoaopmafokoaoab
