/- The law FnExactPriceWord: for every input it answers true, and its arguments read afterwards as before. No condition. -/
import Derived.Test.YtefngijgoldjmaaRows
import Derived.Test.YtefngijgoldjmaaLawPriceWord
import Derived.Test.YtefngijgoldjmaaRiY
import Derived.Test.YtefngijgoldjmaaRiF
import Derived.Test.YtefngijgoldjmaaOpen
import Derived.OpenShut
import Derived.ShutString
import Derived.ChangeOld
import Derived.Carry
namespace Go.Proofs.Ytefngijgoldjmaa
open Go.RowKit
theorem wordAns_len (U : Int → Int → Int × Int × Int) (zs : List Int) : ((wordAns U zs).getD []).length ≤ 1000000000000 := by
  unfold wordAns
  cases hr : rightP zs with
  | none => simp
  | some p =>
    have hp := (right_some (m := p.1) (n := p.2) hr).1.h7
    have := riwF_len U p.1.toNat p.1 p.2
    simp only [Option.map_some, Option.getD_some, List.length_reverse]
    unfold riwL
    omega
theorem lawPriceWord (v : Value) (zs : List Int) (w : World) (h : Ints w v zs) (_hf : Fit1 zs) :
    Calls Try.prog 12 #[v] w fun e w' => e = .returned (.bool true) ∧ Later w w' :=
  lawPriceWord_gen zs (wordAns priceU zs) (wordAns_len priceU zs) (fun v w h => specPriceWord_any v zs w h) (fun v w h => implPriceWord_any v zs w h) v w h
end Go.Proofs.Ytefngijgoldjmaa
namespace Go.Proofs.Ytefngijgoldjmaa.rowFnExactPriceWord
open Go.ChangeShapes Go.WideShapes Go.ChangeAt Go.RowKit

theorem own : ownKnob Try.prog.godebug = none := by kernel_rfl
theorem laidOut : laidOutB Try.prog = true := by kernel_rfl

set_option maxRecDepth 100000 in
theorem lifted (os : Os) (started : os.Started) (H : Type) (enc : TypeId × Value → H) :
    ReturnsInHanded {} Try.checked os 12 .any (Rows.fnExactPriceWordSpec.pre6 enc Try.prog Try.f12 Rows.fnExactPriceWordRow.domain false) (Rows.fnExactPriceWordSpec.post enc Try.prog Try.f12 false true false false) := by
  refine returnsInHanded_of_change (C := Try.checked) own started (by kernel_rfl) Try.func12
    (ChangeSpec.witness6 (enc := enc) (C := Try.checked) false ⟨#[], #[.slice none 0 0], []⟩ 8 (by kernel_rfl) (by kernel_rfl) (by kernel_rfl) (by kernel_rfl)) ?_
  intro W base args ds gs before hval0 hW hcnd _
  have hval : ∀ (j : Nat) t v, Try.f12.params[j]? = some t → args[j]? = some v → Value.okWide Try.prog W .any base t v := hval0
  have hW' := hW
  obtain ⟨p, q, hA0, hV, rfl, hfz, hnd⟩ := hW
  have hA : DataW.TrodAll enc Try.prog W 0 (fun _ => true) true Try.f12.params.toList args.toList ds p := hA0
  rw [Try.params12] at hA hval
  obtain ⟨v0, vs0, d0, ds0, p0, q0, hargs, rfl, rfl, h0, r0⟩ := trodAll_cons hA
  obtain ⟨rfl, rfl, rfl⟩ := trodAll_nil r0
  obtain rfl : args = #[v0] := by cases args; simp_all
  obtain ⟨rfl, rfl⟩ := trodVars_none hV
  have k0 := h0
  have lt0 : ∀ x ∈ p0, x.block < W.heap.size := by obtain ⟨m, hm⟩ := k0; exact DataW.trod_lt m _ _ _ hm
  obtain ⟨z0, hr0, hf0⟩ := openInts Try.underlying22 Try.underlying3 (by kernel_rfl) (hval 0 22 v0 rfl rfl) h0
  clear hA0 hval0
  refine (lawPriceWord v0 z0 W hr0 hf0).mono fun e W' ⟨he, bel⟩ => ?_
  subst he
  exact ⟨_, rfl, _, _, _, [], _, [], hW', trodAll_mk1 (shut_bool Try.underlying4 _), (trodAll_cons_mk (Below.trod laidOut (by kernel_rfl) (of_decide_eq_true (by kernel_rfl)) k0 bel lt0) trodAll_mk0), rfl, bel.frame _, fun h => by cases h⟩

theorem holds : Rows.FnExactPriceWordSaid :=
  OpenClaim.holds_of_wide 12 Try.f12 rfl rfl rfl rfl rfl rfl rfl ⟨rfl, rfl, rfl, rfl, rfl⟩ rfl rfl rfl rfl rfl (by kernel_rfl) Try.func12 (by kernel_rfl)
    (of_decide_eq_true (by kernel_rfl)) (by unfold Func.isWrapper; first | (rw [if_pos (by decide +kernel)]; kernel_rfl) | (rw [if_neg (by decide +kernel)]; exact ⟨rfl, rfl⟩))
    (fun os started H enc _ => lifted os started H enc)
#print axioms holds
end Go.Proofs.Ytefngijgoldjmaa.rowFnExactPriceWord
