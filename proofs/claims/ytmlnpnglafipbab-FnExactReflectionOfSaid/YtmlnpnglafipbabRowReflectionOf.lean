/- The law FnExactReflectionOf: for every input it answers true, and its arguments read afterwards as before. No condition. -/
import Derived.Test.YtmlnpnglafipbabRows
import Derived.Test.YtmlnpnglafipbabLawReflectionOf
import Derived.Test.YtmlnpnglafipbabReflJ
import Derived.Test.YtmlnpnglafipbabReflT
import Derived.Test.YtmlnpnglafipbabOpen
import Derived.OpenShut
import Derived.ShutString
import Derived.ChangeOld
import Derived.Carry
namespace Go.Proofs.Ytmlnpnglafipbab
open Go.RowKit
theorem reflAns_len (F : List (List Int)) (zs : List Int) : off ((reflAns F zs).getD []) ((reflAns F zs).getD []).length ≤ 1000000000000 := by
  cases hp : (formW F && (vecOK F.length zs && vecOK F.length zs))
  · rw [reflAns_none (prodAns_no hp)]; simp [off]
  · have hy := prodAns_yes hp
    rw [Bool.and_eq_true] at hp
    have hq := goodM_sq (formW_good hp.1).2
    by_cases h0 : dotW zs (applyW F zs) = 0
    · rw [reflAns_zero (by rw [hy, h0])]; simp [off]
    · cases hw : wholeN F.length (dotW zs (applyW F zs)) zs (applyW F zs) (F.length * F.length)
      · rw [reflAns_part hy hw]; simp [off]
      · rw [reflAns_yes hy h0 hw]
        have := off_sq F.length (reflM F.length (dotW zs (applyW F zs)) zs (applyW F zs)) (Sq.mk' _ _) (by omega)
        unfold ifGood
        split
        · simp only [Option.getD_some]; omega
        · simp [off]
theorem lawReflectionOf (u : Value) (F : List (List Int)) (v : Value) (zs : List Int) (w : World) (h : Rows2 w u F) (_hf : Fit2 F) (h1 : Ints w v zs) (_hf1 : Fit1 zs) :
    Calls Try.prog 9 #[.agg #[u], v] w fun e w' => e = .returned (.bool true) ∧ Later w w' :=
  lawReflectionOf_gen F zs (reflAns F zs) (reflAns_len F zs) (fun u v w h h1 => specReflectionOf_any u v F zs w h h1) (fun u v w h h1 => implReflectionOf_any u v F zs w h h1) u v w h h1
end Go.Proofs.Ytmlnpnglafipbab
namespace Go.Proofs.Ytmlnpnglafipbab.rowFnExactReflectionOf
open Go.ChangeShapes Go.WideShapes Go.ChangeAt Go.RowKit

theorem own : ownKnob Try.prog.godebug = none := by kernel_rfl
theorem laidOut : laidOutB Try.prog = true := by kernel_rfl

set_option maxRecDepth 100000 in
theorem lifted (os : Os) (started : os.Started) (H : Type) (enc : TypeId × Value → H) :
    ReturnsInHanded {} Try.checked os 9 .any (Rows.fnExactReflectionOfSpec.pre6 enc Try.prog Try.f9 Rows.fnExactReflectionOfRow.domain false) (Rows.fnExactReflectionOfSpec.post enc Try.prog Try.f9 false true false false) := by
  refine returnsInHanded_of_change (C := Try.checked) own started (by kernel_rfl) Try.func9
    (ChangeSpec.witness6 (enc := enc) (C := Try.checked) false ⟨#[], #[.agg #[.slice none 0 0], .slice none 0 0], []⟩ 8 (by kernel_rfl) (by kernel_rfl) (by kernel_rfl) (by kernel_rfl)) ?_
  intro W base args ds gs before hval0 hW hcnd _
  have hval : ∀ (j : Nat) t v, Try.f9.params[j]? = some t → args[j]? = some v → Value.okWide Try.prog W .any base t v := hval0
  have hW' := hW
  obtain ⟨p, q, hA0, hV, rfl, hfz, hnd⟩ := hW
  have hA : DataW.TrodAll enc Try.prog W 0 (fun _ => true) true Try.f9.params.toList args.toList ds p := hA0
  rw [Try.params9] at hA hval
  obtain ⟨v0, vs0, d0, ds0, p0, q0, hargs, rfl, rfl, h0, r0⟩ := trodAll_cons hA
  obtain ⟨v1, vs1, d1, ds1, p1, q1, rfl, rfl, rfl, h1, r1⟩ := trodAll_cons r0
  obtain ⟨rfl, rfl, rfl⟩ := trodAll_nil r1
  obtain rfl : args = #[v0, v1] := by cases args; simp_all
  obtain ⟨rfl, rfl⟩ := trodVars_none hV
  have k0 := h0
  have lt0 : ∀ x ∈ p0, x.block < W.heap.size := by obtain ⟨m, hm⟩ := k0; exact DataW.trod_lt m _ _ _ hm
  have k1 := h1
  have lt1 : ∀ x ∈ p1, x.block < W.heap.size := by obtain ⟨m, hm⟩ := k1; exact DataW.trod_lt m _ _ _ hm
  obtain ⟨u0, z0, rfl, hr0, hf0⟩ := openMat Try.underlying39 (by kernel_rfl) (by kernel_rfl) rfl Try.underlying22 Try.underlying28 Try.underlying3 (by kernel_rfl) (by kernel_rfl) (hval 0 39 v0 rfl rfl) h0
  obtain ⟨z1, hr1, hf1⟩ := openInts Try.underlying28 Try.underlying3 (by kernel_rfl) (hval 1 28 v1 rfl rfl) h1
  clear hA0 hval0
  refine (lawReflectionOf u0 z0 v1 z1 W hr0 hf0 hr1 hf1).mono fun e W' ⟨he, bel⟩ => ?_
  subst he
  exact ⟨_, rfl, _, _, _, [], _, [], hW', trodAll_mk1 (shut_bool Try.underlying4 _), (trodAll_cons_mk (Below.trod laidOut (by kernel_rfl) (of_decide_eq_true (by kernel_rfl)) k0 bel lt0) (trodAll_cons_mk (Below.trod laidOut (by kernel_rfl) (of_decide_eq_true (by kernel_rfl)) k1 bel lt1) trodAll_mk0)), rfl, bel.frame _, fun h => by cases h⟩

theorem holds : Rows.FnExactReflectionOfSaid :=
  OpenClaim.holds_of_wide 9 Try.f9 rfl rfl rfl rfl rfl rfl rfl ⟨rfl, rfl, rfl, rfl, rfl⟩ rfl rfl rfl rfl rfl (by kernel_rfl) Try.func9 (by kernel_rfl)
    (of_decide_eq_true (by kernel_rfl)) (by unfold Func.isWrapper; first | (rw [if_pos (by decide +kernel)]; kernel_rfl) | (rw [if_neg (by decide +kernel)]; exact ⟨rfl, rfl⟩))
    (fun os started H enc _ => lifted os started H enc)
#print axioms holds
end Go.Proofs.Ytmlnpnglafipbab.rowFnExactReflectionOf
