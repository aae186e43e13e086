/- The law FnExactBranchesOf: for every input it answers true, and its arguments read afterwards as before. No condition. -/
import Derived.Test.YtjnhhjnfdaaaeaaRows
import Derived.Test.YtjnhhjnfdaaaeaaBrAll
import Derived.Test.YtjnhhjnfdaaaeaaOpen
import Derived.OpenShut
import Derived.ShutString
import Derived.ChangeOld
import Derived.Carry
namespace Go.Proofs.Ytjnhhjnfdaaaeaa
open Go.RowKit

theorem upF_row {zs : List Int} {a b : Int} (hS : Sol zs a b) : ∀ k, k ≤ zs.length → ∀ r ∈ upF a zs k, r.length ≤ 4 := by
  intro k
  induction k with
  | zero => intro _ r hr; simp [upF] at hr
  | succ k ih =>
    intro hk r hr
    cases hj : jumpL a zs k with
    | none => rw [upF_none hj] at hr; exact ih (by omega) r hr
    | some ys =>
      rw [upF_some hj] at hr
      split at hr
      · unfold putL at hr
        split at hr
        · exact ih (by omega) r hr
        · rcases List.mem_append.1 hr with h | h
          · exact ih (by omega) r (List.mem_of_mem_take h)
          · rcases List.mem_cons.1 h with rfl | h
            · have := Sol.jump_len hj; have := hS.hl; omega
            · exact ih (by omega) r (List.mem_of_mem_drop h)
      · exact ih (by omega) r hr
theorem brAns_off (zs : List Int) (a b : Int) : off ((brAns zs a b).getD []) ((brAns zs a b).getD []).length ≤ 1000000000000 := by
  unfold brAns
  split
  · rename_i hg
    have hS := Sol.good hg
    simp only [Option.getD_some]
    have h1 := off_bound (upF a zs zs.length) 4 (upF a zs zs.length).length (fun i hi => upF_row hS _ (Nat.le_refl _) _ (by rw [List.getD_eq_getElem?_getD, List.getElem?_eq_getElem hi]; exact List.getElem_mem hi)) (Nat.le_refl _)
    have h2 := upF_len a zs zs.length
    have := hS.hl
    omega
  · simp [off]
theorem lawBranchesOf (v0 : Value) (z0 : List Int) (x1 x2 : Int) (w : World) (h0 : Ints w v0 z0) (_hf0 : Fit1 z0) (_hf1 : I64 x1) (_hf2 : I64 x2) :
    Calls Try.prog 11 #[v0, .int .i64 x1, .int .i64 x2] w fun e w' => e = .returned (.bool true) ∧ Later w w' :=
  lawBranchesOf_gen z0 x1 x2 (brAns z0 x1 x2) (brAns_off z0 x1 x2) (fun v w h => specBranchesOf_any v z0 x1 x2 w h) (fun v w h => implBranchesOf_any v z0 x1 x2 w h.1) v0 w h0
end Go.Proofs.Ytjnhhjnfdaaaeaa
namespace Go.Proofs.Ytjnhhjnfdaaaeaa.rowFnExactBranchesOf
open Go.ChangeShapes Go.WideShapes Go.ChangeAt Go.RowKit

theorem own : ownKnob Try.prog.godebug = none := by kernel_rfl
theorem laidOut : laidOutB Try.prog = true := by kernel_rfl

set_option maxRecDepth 100000 in
theorem lifted (os : Os) (started : os.Started) (H : Type) (enc : TypeId × Value → H) :
    ReturnsInHanded {} Try.checked os 11 .any (Rows.fnExactBranchesOfSpec.pre6 enc Try.prog Try.f11 Rows.fnExactBranchesOfRow.domain false) (Rows.fnExactBranchesOfSpec.post enc Try.prog Try.f11 false true false false) := by
  refine returnsInHanded_of_change (C := Try.checked) own started (by kernel_rfl) Try.func11
    (ChangeSpec.witness6 (enc := enc) (C := Try.checked) false ⟨#[], #[.slice none 0 0, .int .i64 0, .int .i64 0], []⟩ 8 (by kernel_rfl) (by kernel_rfl) (by kernel_rfl) (by kernel_rfl)) ?_
  intro W base args ds gs before hval0 hW hcnd _
  have hval : ∀ (j : Nat) t v, Try.f11.params[j]? = some t → args[j]? = some v → Value.okWide Try.prog W .any base t v := hval0
  have hW' := hW
  obtain ⟨p, q, hA0, hV, rfl, hfz, hnd⟩ := hW
  have hA : DataW.TrodAll enc Try.prog W 0 (fun _ => true) true Try.f11.params.toList args.toList ds p := hA0
  rw [Try.params11] at hA hval
  obtain ⟨v0, vs0, d0, ds0, p0, q0, hargs, rfl, rfl, h0, r0⟩ := trodAll_cons hA
  obtain ⟨v1, vs1, d1, ds1, p1, q1, rfl, rfl, rfl, h1, r1⟩ := trodAll_cons r0
  obtain ⟨v2, vs2, d2, ds2, p2, q2, rfl, rfl, rfl, h2, r2⟩ := trodAll_cons r1
  obtain ⟨rfl, rfl, rfl⟩ := trodAll_nil r2
  obtain rfl : args = #[v0, v1, v2] := by cases args; simp_all
  obtain ⟨rfl, rfl⟩ := trodVars_none hV
  have k0 := h0
  have lt0 : ∀ x ∈ p0, x.block < W.heap.size := by obtain ⟨m, hm⟩ := k0; exact DataW.trod_lt m _ _ _ hm
  have k1 := h1
  have lt1 : ∀ x ∈ p1, x.block < W.heap.size := by obtain ⟨m, hm⟩ := k1; exact DataW.trod_lt m _ _ _ hm
  have k2 := h2
  have lt2 : ∀ x ∈ p2, x.block < W.heap.size := by obtain ⟨m, hm⟩ := k2; exact DataW.trod_lt m _ _ _ hm
  obtain ⟨z0, hr0, hf0⟩ := openInts Try.underlying22 Try.underlying3 (by kernel_rfl) (hval 0 22 v0 rfl rfl) h0
  obtain ⟨x1, rfl, rfl, rfl, wf1⟩ := open_int Try.underlying3 (hval 1 3 v1 rfl rfl) h1
  obtain ⟨x2, rfl, rfl, rfl, wf2⟩ := open_int Try.underlying3 (hval 2 3 v2 rfl rfl) h2
  clear hA0 hval0
  refine (lawBranchesOf v0 z0 x1 x2 W hr0 hf0 (I64.of_wf wf1) (I64.of_wf wf2)).mono fun e W' ⟨he, bel⟩ => ?_
  subst he
  exact ⟨_, rfl, _, _, _, [], _, [], hW', trodAll_mk1 (shut_bool Try.underlying4 _), (trodAll_cons_mk (Below.trod laidOut (by kernel_rfl) (of_decide_eq_true (by kernel_rfl)) k0 bel lt0) (trodAll_cons_mk (Below.trod laidOut (by kernel_rfl) (of_decide_eq_true (by kernel_rfl)) k1 bel lt1) (trodAll_cons_mk (Below.trod laidOut (by kernel_rfl) (of_decide_eq_true (by kernel_rfl)) k2 bel lt2) trodAll_mk0))), rfl, bel.frame _, fun h => by cases h⟩

theorem holds : Rows.FnExactBranchesOfSaid :=
  OpenClaim.holds_of_wide 11 Try.f11 rfl rfl rfl rfl rfl rfl rfl ⟨rfl, rfl, rfl, rfl, rfl⟩ rfl rfl rfl rfl rfl (by kernel_rfl) Try.func11 (by kernel_rfl)
    (of_decide_eq_true (by kernel_rfl)) (by unfold Func.isWrapper; first | (rw [if_pos (by decide +kernel)]; kernel_rfl) | (rw [if_neg (by decide +kernel)]; exact ⟨rfl, rfl⟩))
    (fun os started H enc _ => lifted os started H enc)
#print axioms holds
end Go.Proofs.Ytjnhhjnfdaaaeaa.rowFnExactBranchesOf
