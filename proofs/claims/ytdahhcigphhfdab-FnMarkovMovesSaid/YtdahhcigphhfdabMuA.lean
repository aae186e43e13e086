/- The triples behind moves up: arithmetic. -/
import Derived.Test.YtdahhcigphhfdabMuI
import Derived.Test.YtdahhcigphhfdabMuC
namespace Go.Proofs.Ytdahhcigphhfdab
open Go.RowKit

def leTr (t u : Tr) : Bool := !(ltOf cmpTr) u t
def sortR (L : List Tr) : List Tr := L.mergeSort leTr
theorem cmpI_self (x : Int) : cmpI x x = 0 := by unfold cmpI; rw [if_neg (by omega), if_neg (by omega)]
theorem cmpTr_self (t : Tr) : cmpTr t t = 0 := by simp [cmpTr, trL, cmpLL, cmpI_self]
theorem cmpTr_lt {t u : Tr} (h : t.1 < u.1) : cmpTr t u = -1 ∧ cmpTr u t = 1 := by
  have h1 : cmpI t.1 u.1 = -1 := by unfold cmpI; rw [if_pos h]
  have h2 : cmpI u.1 t.1 = 1 := by unfold cmpI; rw [if_neg (by omega), if_pos h]
  constructor
  · show cmpLL _ _ = _
    simp only [trL, cmpLL]; rw [h1]; rfl
  · show cmpLL _ _ = _
    simp only [trL, cmpLL]; rw [h2]; rfl
theorem leTr_self (t : Tr) : leTr t t = true := by unfold leTr ltOf; rw [cmpTr_self]; rfl
theorem leTr_lt {t u : Tr} (h : t.1 < u.1) : leTr t u = true ∧ leTr u t = false := by
  obtain ⟨h1, h2⟩ := cmpTr_lt h
  unfold leTr ltOf
  rw [h1, h2]
  exact ⟨rfl, rfl⟩
theorem sortR_two (a b : Tr) : sortR [a, b] = if leTr a b = true then [a, b] else [b, a] := by
  simp [sortR, List.mergeSort, List.MergeSort.Internal.splitInTwo]
  cases h : leTr a b <;> simp [h]
theorem compR_two (a b : Tr) : compR [a, b] 2 = if b = a then [a] else [a, b] := by
  have e : compR [a, b] 2 = ([] ++ (if 0 = 0 ∨ a ≠ a then [a] else [])) ++ (if 1 = 0 ∨ b ≠ a then [b] else []) := rfl
  rw [e, if_pos (.inl rfl)]
  by_cases h : b = a
  · rw [if_pos h, if_neg (by simp [h])]; rfl
  · rw [if_neg h, if_pos (.inr h)]; rfl
theorem up_moves {x y z : Int} (h : T3 x y z) : moveL x y z 0 = [y, z, 3 * y * z - x] ∧ moveL x y z 1 = [x, z, 3 * z * x - y] ∧ z < 3 * y * z - x ∧ z < 3 * z * x - y ∧ (x = y ∨ (x < y ∧ 3 * z * x - y ≤ 3 * y * z - x)) := by
  obtain ⟨⟨hx, _⟩, ⟨hy, _⟩, ⟨hz, _⟩, hxy, hyz, _⟩ := h
  have e1 : z * 1 ≤ z * y := Int.mul_le_mul_of_nonneg_left hy (by omega)
  have e2 : z * 1 ≤ z * x := Int.mul_le_mul_of_nonneg_left hx (by omega)
  have e3 : z * x ≤ z * y := Int.mul_le_mul_of_nonneg_left hxy (by omega)
  have f1 : 3 * y * z = 3 * (z * y) := by grind
  have f2 : 3 * z * x = 3 * (z * x) := by grind
  have g1 : z < 3 * y * z - x := by omega
  have g2 : z < 3 * z * x - y := by omega
  refine ⟨ordL_eq _ _ _ _ _ _ hyz (by omega) (by omega), ordL_eq _ _ _ _ _ _ (by omega) (by omega) (by omega), g1, g2, ?_⟩
  by_cases h : x = y
  · exact .inl h
  · exact .inr ⟨by omega, by omega⟩
theorem high_up {p q r : Int} (h1 : p ≤ q) (h2 : q ≤ r) : high3 p q r = r := by have := high3_spec p q r; omega
theorem ups_eq {x y z : Int} (h : T3 x y z) : (compR (sortR (upT x y z 1000000000 3)) (sortR (upT x y z 1000000000 3)).length).map trL = upsU x y z := by
  obtain ⟨m0, m1, g0, g1, hc⟩ := up_moves h
  obtain ⟨⟨hx, _⟩, ⟨hy, _⟩, ⟨hz, hz9⟩, hxy, hyz, _⟩ := id h
  have hh : high3 x y z = z := high_up hxy hyz
  have hi0 : hi3 (moveL x y z 0) = 3 * y * z - x := by rw [m0]; show high3 y z (3 * y * z - x) = _; exact high_up hyz (by omega)
  have hi1 : hi3 (moveL x y z 1) = 3 * z * x - y := by rw [m1]; show high3 x z (3 * z * x - y) = _; exact high_up (by omega) (by omega)
  have t0 : trOf (moveL x y z 0) = (y, z, 3 * y * z - x) := by rw [m0]; rfl
  have t1 : trOf (moveL x y z 1) = (x, z, 3 * z * x - y) := by rw [m1]; rfl
  have s0 : ∀ L, stepU x y z L 0 = if 1000000000 < 3 * y * z - x then L else if L = [] ∨ L.getD 0 [] ≠ [y, z, 3 * y * z - x] then L ++ [[y, z, 3 * y * z - x]] else L := by
    intro L
    by_cases hp : 1000000000 < 3 * y * z - x
    · rw [if_pos hp]; exact stepU_none (by unfold moveOpt; exact if_pos hp)
    · rw [if_neg hp, stepU_some (u := [y, z, 3 * y * z - x]) (by unfold moveOpt; rw [← m0]; exact if_neg hp)]
      show (if z < 3 * y * z - x ∧ _ then _ else _) = _
      simp only [g0, true_and]
  have s1 : stepU x y z [] 1 = if 1000000000 < 3 * z * x - y then [] else [[x, z, 3 * z * x - y]] := by
    by_cases hp : 1000000000 < 3 * z * x - y
    · rw [if_pos hp]; exact stepU_none (by unfold moveOpt; exact if_pos hp)
    · rw [if_neg hp, stepU_some (u := [x, z, 3 * z * x - y]) (by unfold moveOpt; rw [← m1]; exact if_neg hp)]
      exact if_pos ⟨g1, .inl rfl⟩
  have hU : upsU x y z = stepU x y z (stepU x y z [] 1) 0 := rfl
  rw [hU, s1, s0]
  by_cases h1 : z = 1
  · obtain rfl : z = 1 := h1
    obtain rfl : x = 1 := by omega
    obtain rfl : y = 1 := by omega
    have hu : upT 1 1 1 1000000000 3 = [(1, 1, 2), (1, 1, 2), (1, 1, 2)] := by decide
    rw [hu]
    have hs : sortR [((1 : Int), (1 : Int), (2 : Int)), (1, 1, 2), (1, 1, 2)] = [(1, 1, 2), (1, 1, 2), (1, 1, 2)] := by
      unfold sortR
      exact List.mergeSort_of_pairwise (by simp [leTr_self])
    rw [hs]
    decide
  · have h2 : ¬ high3 x y z < hi3 (moveL x y z 2) := by
      have := (next_T3 h h1).2
      have hT := (next_T3 h h1).1
      obtain ⟨_, _, _, ha, hb, _⟩ := hT
      have e : hi3 (moveL x y z 2) = nz x y z := high_up ha hb
      rw [e, hh]; omega
    have e2 : (if high3 x y z < hi3 (moveL x y z 2) ∧ hi3 (moveL x y z 2) ≤ 1000000000 then [trOf (moveL x y z 2)] else []) = [] := if_neg (fun h => h2 h.1)
    have hu : upT x y z 1000000000 3 = (if 3 * y * z - x ≤ 1000000000 then [(y, z, 3 * y * z - x)] else []) ++ (if 3 * z * x - y ≤ 1000000000 then [(x, z, 3 * z * x - y)] else []) := by
      simp only [upT]
      rw [e2, List.append_nil, List.nil_append, hh, hi0, hi1, t0, t1]
      simp only [g0, g1, true_and]
    rw [hu]
    by_cases p1 : 3 * z * x - y ≤ 1000000000
    · by_cases p0 : 3 * y * z - x ≤ 1000000000
      · rw [if_pos p0, if_pos p1, if_neg (show ¬ 1000000000 < 3 * z * x - y by omega), if_neg (show ¬ 1000000000 < 3 * y * z - x by omega)]
        rcases hc with rfl | ⟨hlt, hle⟩
        · have e : 3 * z * x - x = 3 * x * z - x := by grind
          have hS : sortR ([(x, z, 3 * x * z - x)] ++ [(x, z, 3 * x * z - x)]) = [(x, z, 3 * x * z - x), (x, z, 3 * x * z - x)] := by
            show sortR [_, _] = _
            rw [sortR_two, leTr_self, if_pos rfl]
          rw [e, hS]
          show (compR [(x, z, 3 * x * z - x), (x, z, 3 * x * z - x)] 2).map trL = _
          rw [compR_two, if_pos rfl]
          simp [trL]
        · have hS : sortR ([(y, z, 3 * y * z - x)] ++ [(x, z, 3 * z * x - y)]) = [(x, z, 3 * z * x - y), (y, z, 3 * y * z - x)] := by
            show sortR [_, _] = _
            rw [sortR_two, (leTr_lt (t := (x, z, 3 * z * x - y)) (u := (y, z, 3 * y * z - x)) hlt).2]; rfl
          rw [hS]
          have hne : ¬ y = x := by omega
          have hne2 : ¬ x = y := by omega
          show (compR [(x, z, 3 * z * x - y), (y, z, 3 * y * z - x)] 2).map trL = _
          rw [compR_two]
          simp [trL, hne, hne2]
      · rw [if_neg p0, if_pos p1, if_neg (show ¬ 1000000000 < 3 * z * x - y by omega), if_pos (show 1000000000 < 3 * y * z - x by omega)]
        simp [sortR, compR, trL]
    · have p0 : ¬ 3 * y * z - x ≤ 1000000000 := by
        intro hp
        rcases hc with rfl | ⟨hlt, hle⟩
        · exact p1 (by have e : 3 * z * x - x = 3 * x * z - x := by grind
                       omega)
        · omega
      rw [if_neg p0, if_neg p1, if_pos (show 1000000000 < 3 * z * x - y by omega), if_pos (show 1000000000 < 3 * y * z - x by omega)]
      simp [sortR, compR]
end Go.Proofs.Ytdahhcigphhfdab
