/- The law FnExactMarkovUp: for every input it answers true, and its arguments read afterwards as before. No condition. -/
import Derived.Test.YtjnhhjnfdaaaeabRows
import Derived.Test.YtjnhhjnfdaaaeabMuU
import Derived.Test.YtjnhhjnfdaaaeabMuV
import Derived.Test.YtjnhhjnfdaaaeabLawMarkovUp
import Derived.Test.YtjnhhjnfdaaaeabOpen
import Derived.OpenShut
import Derived.ShutString
import Derived.ChangeOld
import Derived.Carry
namespace Go.Proofs.Ytjnhhjnfdaaaeab
open Go.RowKit

theorem upsU_rows (x y z : Int) : (upsU x y z).length ≤ 2 ∧ ∀ r, r ∈ upsU x y z → r.length = 3 := by
  have hst : ∀ L i, (∀ r, r ∈ L → r.length = 3) → ∀ r, r ∈ stepU x y z L i → r.length = 3 := by
    intro L i hL r hr
    unfold stepU at hr
    split at hr
    · exact hL r hr
    · rename_i u hu
      split at hr
      · rcases List.mem_append.1 hr with h | h
        · exact hL r h
        · obtain ⟨p, q, s, rfl⟩ := moveOpt_three hu
          rw [List.mem_singleton.1 h]; rfl
      · exact hL r hr
  refine ⟨?_, ?_⟩
  · have h1 := stepU_len x y z [] 1
    have h2 := stepU_len x y z (stepU x y z [] 1) 0
    show (stepU x y z (stepU x y z [] 1) 0).length ≤ 2
    simp only [List.length_nil] at h1
    omega
  · exact hst _ 0 (hst _ 1 (by simp))
theorem upAnsM_off (zs : List Int) : off ((upAnsM zs).getD []) ((upAnsM zs).getD []).length ≤ 1000000000000 := by
  unfold upAnsM
  split
  · obtain ⟨h1, h2⟩ := upsU_rows (zs.getD 0 0) (zs.getD 1 0) (zs.getD 2 0)
    have h3 := off_bound (upsU (zs.getD 0 0) (zs.getD 1 0) (zs.getD 2 0)) 3 (upsU (zs.getD 0 0) (zs.getD 1 0) (zs.getD 2 0)).length (fun i hi => by rw [List.getD_eq_getElem?_getD, List.getElem?_eq_getElem hi]; exact Nat.le_of_eq (h2 _ (List.getElem_mem hi))) (Nat.le_refl _)
    show off (upsU _ _ _) (upsU _ _ _).length ≤ _
    omega
  · simp [off]
theorem lawMarkovUp (v0 : Value) (z0 : List Int) (w : World) (h0 : Ints w v0 z0) (_hf : Fit1 z0) :
    Calls Try.prog 5 #[v0] w fun e w' => e = .returned (.bool true) ∧ Later w w' :=
  lawMarkovUp_gen z0 (upAnsM z0) (upAnsM_off z0) (fun v w h => specMarkovUp_any v z0 w h) (fun v w h => implMarkovUp_any v z0 w h) v0 w h0
end Go.Proofs.Ytjnhhjnfdaaaeab
namespace Go.Proofs.Ytjnhhjnfdaaaeab.rowFnExactMarkovUp
open Go.ChangeShapes Go.WideShapes Go.ChangeAt Go.RowKit

theorem own : ownKnob Try.prog.godebug = none := by kernel_rfl
theorem laidOut : laidOutB Try.prog = true := by kernel_rfl

set_option maxRecDepth 100000 in
theorem lifted (os : Os) (started : os.Started) (H : Type) (enc : TypeId × Value → H) :
    ReturnsInHanded {} Try.checked os 5 .any (Rows.fnExactMarkovUpSpec.pre6 enc Try.prog Try.f5 Rows.fnExactMarkovUpRow.domain false) (Rows.fnExactMarkovUpSpec.post enc Try.prog Try.f5 false true false false) := by
  refine returnsInHanded_of_change (C := Try.checked) own started (by kernel_rfl) Try.func5
    (ChangeSpec.witness6 (enc := enc) (C := Try.checked) false ⟨#[], #[.slice none 0 0], []⟩ 8 (by kernel_rfl) (by kernel_rfl) (by kernel_rfl) (by kernel_rfl)) ?_
  intro W base args ds gs before hval0 hW hcnd _
  have hval : ∀ (j : Nat) t v, Try.f5.params[j]? = some t → args[j]? = some v → Value.okWide Try.prog W .any base t v := hval0
  have hW' := hW
  obtain ⟨p, q, hA0, hV, rfl, hfz, hnd⟩ := hW
  have hA : DataW.TrodAll enc Try.prog W 0 (fun _ => true) true Try.f5.params.toList args.toList ds p := hA0
  rw [Try.params5] at hA hval
  obtain ⟨v0, vs0, d0, ds0, p0, q0, hargs, rfl, rfl, h0, r0⟩ := trodAll_cons hA
  obtain ⟨rfl, rfl, rfl⟩ := trodAll_nil r0
  obtain rfl : args = #[v0] := by cases args; simp_all
  obtain ⟨rfl, rfl⟩ := trodVars_none hV
  have k0 := h0
  have lt0 : ∀ x ∈ p0, x.block < W.heap.size := by obtain ⟨m, hm⟩ := k0; exact DataW.trod_lt m _ _ _ hm
  obtain ⟨z0, hr0, hf0⟩ := openInts Try.underlying22 Try.underlying3 (by kernel_rfl) (hval 0 22 v0 rfl rfl) h0
  clear hA0 hval0
  refine (lawMarkovUp v0 z0 W hr0 hf0).mono fun e W' ⟨he, bel⟩ => ?_
  subst he
  exact ⟨_, rfl, _, _, _, [], _, [], hW', trodAll_mk1 (shut_bool Try.underlying4 _), (trodAll_cons_mk (Below.trod laidOut (by kernel_rfl) (of_decide_eq_true (by kernel_rfl)) k0 bel lt0) trodAll_mk0), rfl, bel.frame _, fun h => by cases h⟩

theorem holds : Rows.FnExactMarkovUpSaid :=
  OpenClaim.holds_of_wide 5 Try.f5 rfl rfl rfl rfl rfl rfl rfl ⟨rfl, rfl, rfl, rfl, rfl⟩ rfl rfl rfl rfl rfl (by kernel_rfl) Try.func5 (by kernel_rfl)
    (of_decide_eq_true (by kernel_rfl)) (by unfold Func.isWrapper; first | (rw [if_pos (by decide +kernel)]; kernel_rfl) | (rw [if_neg (by decide +kernel)]; exact ⟨rfl, rfl⟩))
    (fun os started H enc _ => lifted os started H enc)
#print axioms holds
end Go.Proofs.Ytjnhhjnfdaaaeab.rowFnExactMarkovUp
