/- All right triples up to a bound: where the search ends; insertion at a place. -/
import Derived.Test.YtdahhcigphhfdacRiO
import Derived.Test.YtdahhcigphhfdacOwPr
namespace Go.Proofs.Ytdahhcigphhfdac
open Go.RowKit

theorem rowP_over {most m : Int} (h : most ≤ m * m) (k : Nat) : rowP most m k = [] := by
  rw [List.eq_nil_iff_forall_not_mem]
  intro p hp
  obtain ⟨h1, h2, _⟩ := rowP_mem hp
  unfold inR at h2
  rw [Bool.and_eq_true, decide_eq_true_iff] at h2
  have hP := pairB_iff.1 h2.1
  have h3 := h2.2
  unfold rtZ at h3
  rw [h1] at h3
  have : (1 : Int) * 1 ≤ p.2 * p.2 := Int.mul_le_mul hP.h1 hP.h1 (by omega) (by have := hP.h1; omega)
  omega
theorem rowsP_over {most : Int} {M : Nat} (h : most ≤ (M : Int) * M) (d : Nat) : rowsP most (M + d) = rowsP most M := by
  induction d with
  | zero => rfl
  | succ d ih =>
    rw [← Nat.add_assoc, rowsP, ih, rowP_over, List.append_nil]
    have : (M : Int) * M ≤ ((M + d : Nat) : Int) * ((M + d : Nat) : Int) := Int.mul_le_mul (by omega) (by omega) (by omega) (by omega)
    omega
theorem rowsP_stop {most : Int} {M : Nat} (h : most ≤ (M : Int) * M) (hM : M ≤ 72) : rowsP most 72 = rowsP most M := by
  have := rowsP_over h (72 - M)
  rwa [show M + (72 - M) = 72 by omega] at this
theorem rowsP_two (most : Int) : rowsP most 2 = [] := by
  show (rowsP most 0 ++ rowP most ((0 : Nat) : Int) 0) ++ rowP most ((1 : Nat) : Int) 1 = []
  rw [rowP_one]
  simp [rowsP, rowP]
theorem allR_two (most : Int) : allR most 2 = [] := by unfold allR; rw [rowsP_two]; rfl
def upR (most : Int) : Option (List (List Int)) := if 0 ≤ most ∧ most ≤ 5000 then some ((allR most 72).map rtL) else none
theorem allR_stop {most : Int} {M : Nat} (h : most ≤ (M : Int) * M) (hM : M ≤ 72) : allR most 72 = allR most M := by
  unfold allR; rw [rowsP_stop h hM]
def insK (ps : List Pr) (K : Nat) (p : Pr) : List Pr := ps.take K ++ p :: ps.drop K
theorem insK_perm (ps : List Pr) (K : Nat) (p : Pr) : (insK ps K p).Perm (p :: ps) := by
  unfold insK
  refine List.perm_middle.trans ?_
  rw [List.take_append_drop]
theorem insK_map {ps : List Pr} {L : List Rt} {t : Rt} (u : Value) (h : ps.map (·.2) = L.map rtL) : (insK ps (posR t L L.length) (u, rtL t)).map (·.2) = (insR L t).map rtL := by
  unfold insK insR
  rw [List.map_append, List.map_cons, List.map_take, List.map_drop, h, List.map_append, List.map_cons, List.map_take, List.map_drop]
theorem OwnPs.insertK {lo K : Nat} {w w' : World} {v v' u : Value} {a : List Int} {ps : List Pr} (h : OwnPs lo w.heap.size w v ps) (hu : OwnInts lo w.heap.size w u a) (hne : ∀ p ∈ ps, NePr p (u, a)) (hL : Later w w')
    (ho : w'.ownsRow lo 26 1 v' (insK ps K (u, a)).length ((insK ps K (u, a)).map (·.1))) : OwnPs lo w'.heap.size w' v' (insK ps K (u, a)) := by
  have hp := insK_perm ps K (u, a)
  refine ⟨ho, fun k hk => (ho.lt k hk).2, fun q hq => ?_, ?_⟩
  · rcases List.mem_cons.1 (hp.mem_iff.1 hq) with rfl | hq
    · exact (hu.later hL).wide (Nat.le_refl _) hL.size
    · exact ((h.ints q hq).later hL).wide (Nat.le_refl _) hL.size
  · refine (hp.pairwise_iff (fun h => h.symm)).2 ?_
    exact List.pairwise_cons.2 ⟨fun q hq => (hne q hq).symm, h.ne⟩
theorem insR_snoc {L M : List Rt} {t : Rt} : (L ++ (M ++ [t])).foldl insR [] = insR ((L ++ M).foldl insR []) t := by
  rw [← List.append_assoc, List.foldl_append]; rfl
theorem foldR_len (L : List Rt) : ∀ A : List Rt, (L.foldl insR A).length = A.length + L.length := by
  induction L with
  | nil => intro A; rfl
  | cons t L ih => intro A; rw [List.foldl_cons, ih, insR_len, List.length_cons]; omega
theorem OwnRows.noneR (lo hi : Nat) (w : World) : OwnRows lo hi w (.slice none 0 0) [] :=
  ⟨[], rfl, World.ownsRow_nil _ _ _ _, fun b hb => by simp [Value.ownBlock] at hb, fun i hi => absurd hi (Nat.not_lt_zero i), fun i j _ hj => absurd hj (Nat.not_lt_zero j)⟩
end Go.Proofs.Ytdahhcigphhfdac
