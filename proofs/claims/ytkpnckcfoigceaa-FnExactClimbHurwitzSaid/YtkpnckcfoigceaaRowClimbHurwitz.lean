/- The law FnExactClimbHurwitz: for every input it answers true, and its arguments read afterwards as before. No condition. -/
import Derived.Test.YtkpnckcfoigceaaRows
import Derived.Test.YtkpnckcfoigceaaLawClimbHurwitz
import Derived.Test.YtkpnckcfoigceaaHuY
import Derived.Test.YtkpnckcfoigceaaOpen
import Derived.OpenShut
import Derived.ShutString
import Derived.ChangeOld
import Derived.Carry
namespace Go.Proofs.Ytkpnckcfoigceaa
open Go.RowKit

theorem climbL_len (a : Int) (word : List Int) : ∀ zs, zs.length ≤ 1000000000000 → ((climbL a zs word).getD []).length ≤ 1000000000000 := by
  induction word with
  | nil => intro zs h; exact h
  | cons i is ih =>
    intro zs h
    cases hj : jumpL a zs i.toNat with
    | none => rw [climbL_none hj]; simp
    | some ys => rw [climbL_some hj]; exact ih ys (by rw [Sol.jump_len hj]; exact h)
theorem climbAns_len (zs : List Int) (a b : Int) (word : List Int) : ((climbAns zs a b word).getD []).length ≤ 1000000000000 := by
  unfold climbAns
  split
  · rename_i h
    have := (Sol.good h.1).hl
    exact climbL_len a word zs (by omega)
  · simp
theorem lawClimbHurwitz (v0 : Value) (z0 : List Int) (x1 x2 : Int) (v3 : Value) (z3 : List Int) (w : World) (h0 : Ints w v0 z0) (_hf0 : Fit1 z0) (_hf1 : I64 x1) (_hf2 : I64 x2) (h3 : Ints w v3 z3) (_hf3 : Fit1 z3) :
    Calls Try.prog 5 #[v0, .int .i64 x1, .int .i64 x2, v3] w fun e w' => e = .returned (.bool true) ∧ Later w w' :=
  lawClimbHurwitz_gen z0 x1 x2 z3 (climbAns z0 x1 x2 z3) (climbAns_len z0 x1 x2 z3) (fun v u w h hu => specClimbHurwitz_any v u z0 x1 x2 z3 w h hu.1) (fun v u w h hu => implClimbHurwitz_any v u z0 x1 x2 z3 w h.1 hu.1) v0 v3 w h0 h3
end Go.Proofs.Ytkpnckcfoigceaa
namespace Go.Proofs.Ytkpnckcfoigceaa.rowFnExactClimbHurwitz
open Go.ChangeShapes Go.WideShapes Go.ChangeAt Go.RowKit

theorem own : ownKnob Try.prog.godebug = none := by kernel_rfl
theorem laidOut : laidOutB Try.prog = true := by kernel_rfl

set_option maxRecDepth 100000 in
theorem lifted (os : Os) (started : os.Started) (H : Type) (enc : TypeId × Value → H) :
    ReturnsInHanded {} Try.checked os 5 .any (Rows.fnExactClimbHurwitzSpec.pre6 enc Try.prog Try.f5 Rows.fnExactClimbHurwitzRow.domain false) (Rows.fnExactClimbHurwitzSpec.post enc Try.prog Try.f5 false true false false) := by
  refine returnsInHanded_of_change (C := Try.checked) own started (by kernel_rfl) Try.func5
    (ChangeSpec.witness6 (enc := enc) (C := Try.checked) false ⟨#[], #[.slice none 0 0, .int .i64 0, .int .i64 0, .slice none 0 0], []⟩ 8 (by kernel_rfl) (by kernel_rfl) (by kernel_rfl) (by kernel_rfl)) ?_
  intro W base args ds gs before hval0 hW hcnd _
  have hval : ∀ (j : Nat) t v, Try.f5.params[j]? = some t → args[j]? = some v → Value.okWide Try.prog W .any base t v := hval0
  have hW' := hW
  obtain ⟨p, q, hA0, hV, rfl, hfz, hnd⟩ := hW
  have hA : DataW.TrodAll enc Try.prog W 0 (fun _ => true) true Try.f5.params.toList args.toList ds p := hA0
  rw [Try.params5] at hA hval
  obtain ⟨v0, vs0, d0, ds0, p0, q0, hargs, rfl, rfl, h0, r0⟩ := trodAll_cons hA
  obtain ⟨v1, vs1, d1, ds1, p1, q1, rfl, rfl, rfl, h1, r1⟩ := trodAll_cons r0
  obtain ⟨v2, vs2, d2, ds2, p2, q2, rfl, rfl, rfl, h2, r2⟩ := trodAll_cons r1
  obtain ⟨v3, vs3, d3, ds3, p3, q3, rfl, rfl, rfl, h3, r3⟩ := trodAll_cons r2
  obtain ⟨rfl, rfl, rfl⟩ := trodAll_nil r3
  obtain rfl : args = #[v0, v1, v2, v3] := by cases args; simp_all
  obtain ⟨rfl, rfl⟩ := trodVars_none hV
  have k0 := h0
  have lt0 : ∀ x ∈ p0, x.block < W.heap.size := by obtain ⟨m, hm⟩ := k0; exact DataW.trod_lt m _ _ _ hm
  have k1 := h1
  have lt1 : ∀ x ∈ p1, x.block < W.heap.size := by obtain ⟨m, hm⟩ := k1; exact DataW.trod_lt m _ _ _ hm
  have k2 := h2
  have lt2 : ∀ x ∈ p2, x.block < W.heap.size := by obtain ⟨m, hm⟩ := k2; exact DataW.trod_lt m _ _ _ hm
  have k3 := h3
  have lt3 : ∀ x ∈ p3, x.block < W.heap.size := by obtain ⟨m, hm⟩ := k3; exact DataW.trod_lt m _ _ _ hm
  obtain ⟨z0, hr0, hf0⟩ := openInts Try.underlying23 Try.underlying3 (by kernel_rfl) (hval 0 23 v0 rfl rfl) h0
  obtain ⟨x1, rfl, rfl, rfl, wf1⟩ := open_int Try.underlying3 (hval 1 3 v1 rfl rfl) h1
  obtain ⟨x2, rfl, rfl, rfl, wf2⟩ := open_int Try.underlying3 (hval 2 3 v2 rfl rfl) h2
  obtain ⟨z3, hr3, hf3⟩ := openInts Try.underlying23 Try.underlying3 (by kernel_rfl) (hval 3 23 v3 rfl rfl) h3
  clear hA0 hval0
  refine (lawClimbHurwitz v0 z0 x1 x2 v3 z3 W hr0 hf0 (I64.of_wf wf1) (I64.of_wf wf2) hr3 hf3).mono fun e W' ⟨he, bel⟩ => ?_
  subst he
  exact ⟨_, rfl, _, _, _, [], _, [], hW', trodAll_mk1 (shut_bool Try.underlying4 _), (trodAll_cons_mk (Below.trod laidOut (by kernel_rfl) (of_decide_eq_true (by kernel_rfl)) k0 bel lt0) (trodAll_cons_mk (Below.trod laidOut (by kernel_rfl) (of_decide_eq_true (by kernel_rfl)) k1 bel lt1) (trodAll_cons_mk (Below.trod laidOut (by kernel_rfl) (of_decide_eq_true (by kernel_rfl)) k2 bel lt2) (trodAll_cons_mk (Below.trod laidOut (by kernel_rfl) (of_decide_eq_true (by kernel_rfl)) k3 bel lt3) trodAll_mk0)))), rfl, bel.frame _, fun h => by cases h⟩

theorem holds : Rows.FnExactClimbHurwitzSaid :=
  OpenClaim.holds_of_wide 5 Try.f5 rfl rfl rfl rfl rfl rfl rfl ⟨rfl, rfl, rfl, rfl, rfl⟩ rfl rfl rfl rfl rfl (by kernel_rfl) Try.func5 (by kernel_rfl)
    (of_decide_eq_true (by kernel_rfl)) (by unfold Func.isWrapper; first | (rw [if_pos (by decide +kernel)]; kernel_rfl) | (rw [if_neg (by decide +kernel)]; exact ⟨rfl, rfl⟩))
    (fun os started H enc _ => lifted os started H enc)
#print axioms holds
end Go.Proofs.Ytkpnckcfoigceaa.rowFnExactClimbHurwitz
