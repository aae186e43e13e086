/- The law FnExactInverseOf: for every input it answers true, and its arguments read afterwards as before. No condition. -/
import Derived.Test.YtedgccbogjinhaaRows
import Derived.Test.YtedgccbogjinhaaLawInverseOf
import Derived.Test.YtedgccbogjinhaaInvT
import Derived.Test.YtedgccbogjinhaaOpen
import Derived.OpenShut
import Derived.ShutString
import Derived.ChangeOld
import Derived.Carry
namespace Go.Proofs.Ytedgccbogjinhaa
open Go.RowKit
theorem invAns_len (m : List (List Int)) : off ((invAns m).getD []) ((invAns m).getD []).length ≤ 1000000000000 := by
  unfold invAns ifGood
  split
  · rename_i h
    have hq := goodM_sq h.1
    have := off_sq (m.length - 1 + 1) (invM (det m.length m) (m.length - 1) m) (Sq.mk' _ _) (by omega)
    split
    · simp only [Option.getD_some]; omega
    · simp [off]
  · simp [off]
theorem lawInverseOf (v : Value) (m : List (List Int)) (w : World) (h : Rows2 w v m) (_hf : Fit2 m) :
    Calls Try.prog 9 #[.agg #[v]] w fun e w' => e = .returned (.bool true) ∧ Later w w' :=
  lawInverseOf_gen m (invAns m) (invAns_len m) (fun v w h => specInverseOf_any v m w h) (fun v w h => implInverseOf_any v m w h.1) v w h
end Go.Proofs.Ytedgccbogjinhaa
namespace Go.Proofs.Ytedgccbogjinhaa.rowFnExactInverseOf
open Go.ChangeShapes Go.WideShapes Go.ChangeAt Go.RowKit

theorem own : ownKnob Try.prog.godebug = none := by kernel_rfl
theorem laidOut : laidOutB Try.prog = true := by kernel_rfl

set_option maxRecDepth 100000 in
theorem lifted (os : Os) (started : os.Started) (H : Type) (enc : TypeId × Value → H) :
    ReturnsInHanded {} Try.checked os 9 .any (Rows.fnExactInverseOfSpec.pre6 enc Try.prog Try.f9 Rows.fnExactInverseOfRow.domain false) (Rows.fnExactInverseOfSpec.post enc Try.prog Try.f9 false true false false) := by
  refine returnsInHanded_of_change (C := Try.checked) own started (by kernel_rfl) Try.func9
    (ChangeSpec.witness6 (enc := enc) (C := Try.checked) false ⟨#[], #[.agg #[.slice none 0 0]], []⟩ 8 (by kernel_rfl) (by kernel_rfl) (by kernel_rfl) (by kernel_rfl)) ?_
  intro W base args ds gs before hval0 hW hcnd _
  have hval : ∀ (j : Nat) t v, Try.f9.params[j]? = some t → args[j]? = some v → Value.okWide Try.prog W .any base t v := hval0
  have hW' := hW
  obtain ⟨p, q, hA0, hV, rfl, hfz, hnd⟩ := hW
  have hA : DataW.TrodAll enc Try.prog W 0 (fun _ => true) true Try.f9.params.toList args.toList ds p := hA0
  rw [Try.params9] at hA hval
  obtain ⟨v0, vs0, d0, ds0, p0, q0, hargs, rfl, rfl, h0, r0⟩ := trodAll_cons hA
  obtain ⟨rfl, rfl, rfl⟩ := trodAll_nil r0
  obtain rfl : args = #[v0] := by cases args; simp_all
  obtain ⟨rfl, rfl⟩ := trodVars_none hV
  have k0 := h0
  have lt0 : ∀ x ∈ p0, x.block < W.heap.size := by obtain ⟨m, hm⟩ := k0; exact DataW.trod_lt m _ _ _ hm
  obtain ⟨u0, z0, rfl, hr0, hf0⟩ := openMat Try.underlying24 (by kernel_rfl) (by kernel_rfl) rfl Try.underlying22 Try.underlying37 Try.underlying3 (by kernel_rfl) (by kernel_rfl) (hval 0 24 v0 rfl rfl) h0
  clear hA0 hval0
  refine (lawInverseOf u0 z0 W hr0 hf0).mono fun e W' ⟨he, bel⟩ => ?_
  subst he
  exact ⟨_, rfl, _, _, _, [], _, [], hW', trodAll_mk1 (shut_bool Try.underlying4 _), (trodAll_cons_mk (Below.trod laidOut (by kernel_rfl) (of_decide_eq_true (by kernel_rfl)) k0 bel lt0) trodAll_mk0), rfl, bel.frame _, fun h => by cases h⟩

theorem holds : Rows.FnExactInverseOfSaid :=
  OpenClaim.holds_of_wide 9 Try.f9 rfl rfl rfl rfl rfl rfl rfl ⟨rfl, rfl, rfl, rfl, rfl⟩ rfl rfl rfl rfl rfl (by kernel_rfl) Try.func9 (by kernel_rfl)
    (of_decide_eq_true (by kernel_rfl)) (by unfold Func.isWrapper; first | (rw [if_pos (by decide +kernel)]; kernel_rfl) | (rw [if_neg (by decide +kernel)]; exact ⟨rfl, rfl⟩))
    (fun os started H enc _ => lifted os started H enc)
#print axioms holds
end Go.Proofs.Ytedgccbogjinhaa.rowFnExactInverseOf
