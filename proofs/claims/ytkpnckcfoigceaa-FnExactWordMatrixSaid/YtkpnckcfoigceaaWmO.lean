/- A list of matrices of the call's own, as the walks of laws carry it: made by toMatrixS, read by the functions, marked by markMatrixS. -/
import Derived.Test.YtkpnckcfoigceaaWmK
namespace Go.Proofs.Ytkpnckcfoigceaa
open Go.RowKit

def OwnMats (lo hi : Nat) (w : World) (v : Value) (Z : List (List (List Int))) : Prop :=
  ∃ g cap cut, v = .slice (some ⟨g, 0, none⟩) Z.length cap ∧ lo ≤ g ∧ cut Z.length ≤ hi ∧ LaidMats lo w g Z.length cap Z.length cut Z
theorem OwnMats.later {lo hi : Nat} {w w' : World} {v : Value} {Z : List (List (List Int))} (h : OwnMats lo hi w v Z) (k : Later w w') : OwnMats lo hi w' v Z := by
  obtain ⟨g, cap, cut, rfl, h1, h2, h3⟩ := h
  exact ⟨g, cap, cut, rfl, h1, h2, h3.later k⟩
theorem OwnMats.reads {lo hi : Nat} {w : World} {v : Value} {Z : List (List (List Int))} (h : OwnMats lo hi w v Z) (hn : Z.length ≤ 1048576) : MatsR w v Z := by
  obtain ⟨g, cap, cut, rfl, _, _, h3⟩ := h
  exact h3.reads hn
theorem OwnMats.shape {lo hi : Nat} {w : World} {v : Value} {Z : List (List (List Int))} (h : OwnMats lo hi w v Z) : ∃ a cap, v = .slice a Z.length cap := by
  obtain ⟨g, cap, cut, rfl, _⟩ := h
  exact ⟨_, _, rfl⟩
/-- what szMatrixS has told of a list -/
def SzAll (Z : List (List (List Int))) : Prop := Z.length ≤ 1048576 ∧ ∀ i, i < Z.length → SzIn (Z.getD i []) 1048576
theorem copyMats_any (v : Value) (Z : List (List (List Int))) (w : World) (hz : SzAll Z) (h : MatsR w v Z) :
    Calls Try.prog 8 #[v] w fun e w' => ∃ u, e = .returned u ∧ OwnMats w.heap.size w'.heap.size w' u Z ∧ Later w w' := by
  refine (toMatrixS_any v Z w hz.1 hz.2 h).mono ?_
  rintro e w' ⟨g, cap, cut, rfl, h1, h2, h3⟩
  exact ⟨_, rfl, ⟨g, cap, cut, rfl, h1, h2.choose_spec.2.2.2.1, h2⟩, h3⟩
theorem markMats_any (lo hi : Nat) (v : Value) (Z : List (List (List Int))) (k0 : Int) (w : World) (hk0 : 0 ≤ k0) (hk1 : k0 ≤ 4503599627370496) (hz : SzAll Z) (h : OwnMats lo hi w v Z) :
    Calls Try.prog 14 #[v, .int .i64 k0] w fun e w' => ∃ r : Int, e = .returned (.int .i64 r) ∧ k0 ≤ r ∧ r ≤ k0 + 1152921504606846976 ∧ Wrote (fun b => lo ≤ b ∧ b < hi) w w' := by
  obtain ⟨g, cap, cut, rfl, h1, h2, h3⟩ := h
  refine (markMatrixS_any lo g cap cut Z k0 w hk0 hk1 hz.1 hz.2 h3).mono ?_
  rintro e w' ⟨r, rfl, h4, h5, h6⟩
  have hg : g < cut 0 := h3.choose_spec.2.1
  have := hz.1
  exact ⟨r, rfl, h4, by omega, h6.mono fun b hb => ⟨by omega, by omega⟩⟩
theorem szAll_of {Z : List (List (List Int))} {l r : Int} (hl : l ≤ 1048576) (h : r = -1 ∨ (0 ≤ r ∧ r ≤ l ∧ (Z.length : Int) ≤ l ∧ ∀ i, i < Z.length → SzIn (Z.getD i []) l)) (hr : ¬ r < 0) : SzAll Z := by
  rcases h with rfl | ⟨_, _, h3, h4⟩
  · exact absurd (by decide) hr
  · exact ⟨by omega, fun i hi => (h4 i hi).mono hl⟩
theorem wordF_len {Z : List (List (List Int))} : ∀ (zs : List Int) (P M : List (List Int)) (n : Nat), Sq n P → wordF Z zs P = some M → Sq n M
  | [], P, M, n, h, e => by simp [wordF] at e; subst e; exact h
  | i :: r, P, M, n, h, e => by
    unfold wordF at e
    split at e
    · rw [h.1] at e; exact wordF_len r _ M n (Sq.mk' n _) e
    · cases e
theorem wmAns_off (Z : List (List (List Int))) (zs : List Int) : off ((wmAns Z zs).getD []) ((wmAns Z zs).getD []).length ≤ 1000000000000 := by
  unfold wmAns
  split
  · rename_i h
    obtain ⟨h1, _, hg⟩ := gensOK_parts h.1
    have hq := goodM_sq (hg 0 h1).1
    cases e : wordF Z zs (unitM (Z.getD 0 []).length) with
    | none => simp [off]
    | some M =>
      have hs := wordF_len zs _ M _ (Sq.mk' _ eqI) e
      simp only [Option.getD_some]
      have hb := off_bound M 4 M.length (fun i hi => by rw [hs.1] at hi; rw [hs.2 i hi]; exact hq.2.1) (Nat.le_refl _)
      have := hs.1
      have := hq.2.1
      omega
  · simp [off]
end Go.Proofs.Ytkpnckcfoigceaa
