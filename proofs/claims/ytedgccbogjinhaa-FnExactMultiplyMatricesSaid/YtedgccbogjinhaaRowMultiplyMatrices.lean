/- The law FnExactMultiplyMatrices: for every input it answers true, and its arguments read afterwards as before. No condition. -/
import Derived.Test.YtedgccbogjinhaaRows
import Derived.Test.YtedgccbogjinhaaLawMultiplyMatrices
import Derived.Test.YtedgccbogjinhaaMulB
import Derived.Test.YtedgccbogjinhaaOpen
import Derived.OpenShut
import Derived.ShutString
import Derived.ChangeOld
import Derived.Carry
namespace Go.Proofs.Ytedgccbogjinhaa
open Go.RowKit
theorem mulAns_len (A C : List (List Int)) : off ((mulAns A C).getD []) ((mulAns A C).getD []).length ≤ 1000000000000 := by
  unfold mulAns ifGood
  split
  · rename_i h
    have hq := goodM_sq h.1
    have := off_sq A.length (mulM A.length A C) (Sq.mk' _ _) (by omega)
    split
    · simp only [Option.getD_some]; omega
    · simp [off]
  · simp [off]
theorem lawMultiplyMatrices (u : Value) (A : List (List Int)) (v : Value) (C : List (List Int)) (w : World) (h : Rows2 w u A) (_hf : Fit2 A) (h1 : Rows2 w v C) (_hf1 : Fit2 C) :
    Calls Try.prog 5 #[.agg #[u], .agg #[v]] w fun e w' => e = .returned (.bool true) ∧ Later w w' :=
  lawMultiplyMatrices_gen A C (mulAns A C) (mulAns_len A C) (fun u v w h h1 => specMultiplyMatrices_any u v A C w h h1) (fun u v w h h1 => implMultiplyMatrices_any u v A C w h h1) u v w h h1
end Go.Proofs.Ytedgccbogjinhaa
namespace Go.Proofs.Ytedgccbogjinhaa.rowFnExactMultiplyMatrices
open Go.ChangeShapes Go.WideShapes Go.ChangeAt Go.RowKit

theorem own : ownKnob Try.prog.godebug = none := by kernel_rfl
theorem laidOut : laidOutB Try.prog = true := by kernel_rfl

set_option maxRecDepth 100000 in
theorem lifted (os : Os) (started : os.Started) (H : Type) (enc : TypeId × Value → H) :
    ReturnsInHanded {} Try.checked os 5 .any (Rows.fnExactMultiplyMatricesSpec.pre6 enc Try.prog Try.f5 Rows.fnExactMultiplyMatricesRow.domain false) (Rows.fnExactMultiplyMatricesSpec.post enc Try.prog Try.f5 false true false false) := by
  refine returnsInHanded_of_change (C := Try.checked) own started (by kernel_rfl) Try.func5
    (ChangeSpec.witness6 (enc := enc) (C := Try.checked) false ⟨#[], #[.agg #[.slice none 0 0], .agg #[.slice none 0 0]], []⟩ 8 (by kernel_rfl) (by kernel_rfl) (by kernel_rfl) (by kernel_rfl)) ?_
  intro W base args ds gs before hval0 hW hcnd _
  have hval : ∀ (j : Nat) t v, Try.f5.params[j]? = some t → args[j]? = some v → Value.okWide Try.prog W .any base t v := hval0
  have hW' := hW
  obtain ⟨p, q, hA0, hV, rfl, hfz, hnd⟩ := hW
  have hA : DataW.TrodAll enc Try.prog W 0 (fun _ => true) true Try.f5.params.toList args.toList ds p := hA0
  rw [Try.params5] at hA hval
  obtain ⟨v0, vs0, d0, ds0, p0, q0, hargs, rfl, rfl, h0, r0⟩ := trodAll_cons hA
  obtain ⟨v1, vs1, d1, ds1, p1, q1, rfl, rfl, rfl, h1, r1⟩ := trodAll_cons r0
  obtain ⟨rfl, rfl, rfl⟩ := trodAll_nil r1
  obtain rfl : args = #[v0, v1] := by cases args; simp_all
  obtain ⟨rfl, rfl⟩ := trodVars_none hV
  have k0 := h0
  have lt0 : ∀ x ∈ p0, x.block < W.heap.size := by obtain ⟨m, hm⟩ := k0; exact DataW.trod_lt m _ _ _ hm
  have k1 := h1
  have lt1 : ∀ x ∈ p1, x.block < W.heap.size := by obtain ⟨m, hm⟩ := k1; exact DataW.trod_lt m _ _ _ hm
  obtain ⟨u0, z0, rfl, hr0, hf0⟩ := openMat Try.underlying24 (by kernel_rfl) (by kernel_rfl) rfl Try.underlying22 Try.underlying37 Try.underlying3 (by kernel_rfl) (by kernel_rfl) (hval 0 24 v0 rfl rfl) h0
  obtain ⟨u1, z1, rfl, hr1, hf1⟩ := openMat Try.underlying24 (by kernel_rfl) (by kernel_rfl) rfl Try.underlying22 Try.underlying37 Try.underlying3 (by kernel_rfl) (by kernel_rfl) (hval 1 24 v1 rfl rfl) h1
  clear hA0 hval0
  refine (lawMultiplyMatrices u0 z0 u1 z1 W hr0 hf0 hr1 hf1).mono fun e W' ⟨he, bel⟩ => ?_
  subst he
  exact ⟨_, rfl, _, _, _, [], _, [], hW', trodAll_mk1 (shut_bool Try.underlying4 _), (trodAll_cons_mk (Below.trod laidOut (by kernel_rfl) (of_decide_eq_true (by kernel_rfl)) k0 bel lt0) (trodAll_cons_mk (Below.trod laidOut (by kernel_rfl) (of_decide_eq_true (by kernel_rfl)) k1 bel lt1) trodAll_mk0)), rfl, bel.frame _, fun h => by cases h⟩

theorem holds : Rows.FnExactMultiplyMatricesSaid :=
  OpenClaim.holds_of_wide 5 Try.f5 rfl rfl rfl rfl rfl rfl rfl ⟨rfl, rfl, rfl, rfl, rfl⟩ rfl rfl rfl rfl rfl (by kernel_rfl) Try.func5 (by kernel_rfl)
    (of_decide_eq_true (by kernel_rfl)) (by unfold Func.isWrapper; first | (rw [if_pos (by decide +kernel)]; kernel_rfl) | (rw [if_neg (by decide +kernel)]; exact ⟨rfl, rfl⟩))
    (fun os started H enc _ => lifted os started H enc)
#print axioms holds
end Go.Proofs.Ytedgccbogjinhaa.rowFnExactMultiplyMatrices
