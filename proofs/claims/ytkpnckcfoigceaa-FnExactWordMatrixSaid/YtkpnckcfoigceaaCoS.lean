/- The Cohn matrix, in the model. -/
import Derived.Test.YtkpnckcfoigceaaWdS
import Derived.Test.YtkpnckcfoigceaaMulS
import Derived.Test.YtkpnckcfoigceaaUnit2
namespace Go.Proofs.Ytkpnckcfoigceaa
open Go.RowKit

def genM (c : UInt8) : List (List Int) := if c = 98 then [[5, 2], [2, 1]] else [[2, 1], [1, 1]]
theorem genM_sq (c : UInt8) : Sq 2 (genM c) := by
  unfold genM
  split <;> refine ⟨rfl, fun i hi => ?_⟩ <;> (match i, hi with | 0, _ => rfl | 1, _ => rfl)
def cohnF : List UInt8 → List (List Int) → Option (List (List Int))
  | [], P => some P
  | c :: r, P => if goodM 1000000 (mulM 2 P (genM c)) = true then cohnF r (mulM 2 P (genM c)) else none
def cohnAns (l : List UInt8) : Option (List (List Int)) := if lettersW l = true then cohnF l (unitM 2) else none
theorem cohnF_sq : ∀ (l : List UInt8) (P M : List (List Int)), Sq 2 P → cohnF l P = some M → Sq 2 M
  | [], P, M, h, e => by simp [cohnF] at e; subst e; exact h
  | c :: r, P, M, _, e => by
    unfold cohnF at e
    split at e
    · exact cohnF_sq r _ M (Sq.mk' 2 _) e
    · cases e
theorem cohnF_drop (l : List UInt8) (k : Nat) (c : UInt8) (P : List (List Int)) (h : l[k]? = some c) : cohnF (l.drop k) P = if goodM 1000000 (mulM 2 P (genM c)) = true then cohnF (l.drop (k + 1)) (mulM 2 P (genM c)) else none := by
  have hk : k < l.length := (List.getElem?_eq_some_iff.1 h).1
  have hc : l[k] = c := by rw [List.getElem?_eq_getElem hk] at h; simpa using h
  rw [List.drop_eq_getElem_cons hk, hc]
  rfl
theorem off_sq2 (M : List (List Int)) (h : Sq 2 M) : off M M.length ≤ 4 := by
  have h1 := off_bound M 2 M.length (fun i hi => by rw [h.1] at hi; rw [h.2 i hi]; exact Nat.le_refl _) (Nat.le_refl _)
  rw [h.1] at h1 ⊢
  exact h1
theorem cohnAns_off (l : List UInt8) : off ((cohnAns l).getD []) ((cohnAns l).getD []).length ≤ 1000000000000 := by
  unfold cohnAns
  split
  · cases h : cohnF l (unitM 2) with
    | none => simp [off]
    | some M => have := off_sq2 M (cohnF_sq l _ M (Sq.mk' 2 _) h); simp only [Option.getD_some]; omega
  · simp [off]
theorem rows_lit2 (W : World) (b1 b2 b3 : Nat) (p q r s : Int) (h1 : W.cell? ⟨b1, 0, none⟩ = some (.int .i64 p)) (h2 : W.cell? ⟨b1, 1, none⟩ = some (.int .i64 q)) (h3 : W.cell? ⟨b2, 0, none⟩ = some (.int .i64 r)) (h4 : W.cell? ⟨b2, 1, none⟩ = some (.int .i64 s))
    (h5 : W.cell? ⟨b3, 0, none⟩ = some (.slice (some ⟨b1, 0, none⟩) 2 2)) (h6 : W.cell? ⟨b3, 1, none⟩ = some (.slice (some ⟨b2, 0, none⟩) 2 2)) :
    Rows2 W (.slice (some ⟨b3, 0, none⟩) 2 2) [[p, q], [r, s]] := by
  refine ⟨_, 2, rfl, by simp, fun i hi => ?_⟩
  match i, hi with
  | 0, _ =>
    refine ⟨_, _, rfl, by rw [addr_add0]; exact h5, _, 2, rfl, by simp, fun j hj => ?_⟩
    match j, hj with
    | 0, _ => exact ⟨_, rfl, by rw [addr_add0]; exact h1⟩
    | 1, _ => exact ⟨_, rfl, by rw [addr_add0]; exact h2⟩
  | 1, _ =>
    refine ⟨_, _, rfl, by rw [addr_add0]; exact h6, _, 2, rfl, by simp, fun j hj => ?_⟩
    match j, hj with
    | 0, _ => exact ⟨_, rfl, by rw [addr_add0]; exact h3⟩
    | 1, _ => exact ⟨_, rfl, by rw [addr_add0]; exact h4⟩

theorem MatAns.nothing {w w' : World} {e : Ending} (he : e = .returned (.tuple #[.agg #[.slice none 0 0], .bool false])) (hL : Later w w') : MatAns w none e w' :=
  ⟨_, he, OwnRows.empty _ _ _, hL⟩
end Go.Proofs.Ytkpnckcfoigceaa
