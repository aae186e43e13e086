/- The law FnExactCircleText: for every input it answers true, and its arguments read afterwards as before; the card ties the library's tables that its row lists. No condition. -/
import Derived.Test.YtcilfeibpnijcaaDoorRows
import Derived.Test.YtcilfeibpnijcaaDoorTie
import Derived.Test.YtcilfeibpnijcaaDoorCards
import Derived.Test.YtcilfeibpnijcaaDoorLawCircleText
import Derived.Test.YtcilfeibpnijcaaDoorCtP
import Derived.Test.YtcilfeibpnijcaaDoorOpenC
import Derived.Test.YtcilfeibpnijcaaDoorOpen
import Derived.Test.YtcilfeibpnijcaaDoorDoorP
import Derived.OpenShut
import Derived.ShutString
import Derived.ChangeOld
import Derived.Carry
namespace Go.Proofs.YtcilfeibpnijcaaDoor
open Go.RowKit
theorem tabHere_of {W : World} (h : laidMetH Tryd.prog doorLaid W) : TabHere W := by
  have h2 := (show laidMet Tryd.prog doorLaid W by rwa [MakeChecks.laidMetH_plain _ _ _ (by kernel_rfl)] at h).filter (fun x => x.1 == "internal/strconv.uint64pow10")
  exact Lib.tabIs_of_head (g := 0) (t := 63) (e := 53) (n := 20) (rest := []) (by kernel_rfl) (by kernel_rfl) Tryd.underlying63 Tryd.underlying53 (by kernel_rfl) (by kernel_rfl) h2
theorem lawCircleText (a b x y : Int) (w : World) (h : laidMetH Tryd.prog doorLaid w) :
    Calls Tryd.prog 3 #[.agg #[.int .i64 a, .int .i64 b, .int .i64 x, .int .i64 y]] w fun e w' => e = .returned (.bool true) ∧ Later w w' :=
  lawCircleText_gen a b x y (ctAns (a, b, x, y)) (fun w => specCircleText_any a b x y w) (fun w h => implCircleText_any a b x y w h) w (tabHere_of h)
end Go.Proofs.YtcilfeibpnijcaaDoor
namespace Go.Proofs.YtcilfeibpnijcaaDoor.rowFnExactCircleText
open Go.ChangeShapes Go.WideShapes Go.ChangeAt Go.RowKit
open Go.ChangeMaps (open_string shut_string)

theorem own : ownKnob Tryd.prog.godebug = none := by kernel_rfl
theorem laidOut : laidOutB Tryd.prog = true := by kernel_rfl

set_option maxRecDepth 100000 in
theorem lifted (os : Os) (started : os.Started) (H : Type) (enc : TypeId × Value → H) :
    ReturnsInHanded {} Tryd.checked os 3 .any (fun w args => (Rows.fnExactCircleTextSpec.pre enc Tryd.prog Tryd.f3 Rows.fnExactCircleTextRow.domain false w args ∧ laidMetH Tryd.prog doorLaid w) ∧ sizedMet enc Tryd.prog Tryd.f3 (OpenSpec.ofChange Rows.fnExactCircleTextSpec) false w args)
      (Rows.fnExactCircleTextSpec.post enc Tryd.prog Tryd.f3 false true false false) := by
  refine returnsInHanded_of_change_and (C := Tryd.checked) (X := fun w _ => laidMetH Tryd.prog doorLaid w) (fun _ _ _ hh h => h.of_heap hh) own started (by kernel_rfl) Tryd.func3
    (ChangeSpec.witness_shaped (enc := enc) (C := Tryd.checked) (os := os) (X := fun w _ => laidMetH Tryd.prog doorLaid w) false (World.laidAll Tryd.prog os doorLaid) #[.agg #[.int .i64 0, .int .i64 0, .int .i64 0, .int .i64 0]] 8 (World.laidAll_os _ _ _)
      (World.shaped_of_ZipB (by kernel_rfl) (by kernel_rfl)) (by kernel_rfl) (by kernel_rfl) (by kernel_rfl) (doorMet os _)) ?_
  intro W base args ds gs before hval0 hW _ _ hlaid _
  have hval : ∀ (j : Nat) t v, Tryd.f3.params[j]? = some t → args[j]? = some v → Value.okWide Tryd.prog W .any base t v := hval0
  have hW' := hW
  obtain ⟨p, q, hA0, hV, rfl, hfz, hnd⟩ := hW
  have hA : DataW.TrodAll enc Tryd.prog W 0 (fun _ => true) true Tryd.f3.params.toList args.toList ds p := hA0
  rw [Tryd.params3] at hA hval
  obtain ⟨v0, vs0, d0, ds0, p0, q0, hargs, rfl, rfl, h0, r0⟩ := trodAll_cons hA
  obtain ⟨rfl, rfl, rfl⟩ := trodAll_nil r0
  obtain rfl : args = #[v0] := by cases args; simp_all
  obtain ⟨rfl, rfl⟩ := trodVars_none hV
  have k0 := h0
  have lt0 : ∀ x ∈ p0, x.block < W.heap.size := by obtain ⟨m, hm⟩ := k0; exact DataW.trod_lt m _ _ _ hm
  obtain ⟨a0, b0, x0, y0, rfl⟩ := openCi Tryd.underlying23 (by kernel_rfl) (by kernel_rfl) rfl rfl rfl rfl Tryd.underlying3 (hval 0 23 v0 rfl rfl) h0
  clear hA0 hval0
  refine (lawCircleText a0 b0 x0 y0 W hlaid).mono fun e W' ⟨he, bel⟩ => ?_
  subst he
  exact ⟨_, rfl, _, _, _, [], _, [], hW', trodAll_mk1 (shut_bool Tryd.underlying4 _), (trodAll_cons_mk (Below.trod laidOut (by kernel_rfl) (of_decide_eq_true (by kernel_rfl)) k0 bel lt0) trodAll_mk0), rfl, bel.frame _, fun h => by cases h⟩

theorem said : Rows.FnExactCircleTextSaid :=
  OpenClaim.holds_of_wide 3 Tryd.f3 rfl rfl rfl rfl rfl rfl rfl ⟨rfl, rfl, rfl, rfl, rfl⟩ rfl rfl rfl rfl rfl (by kernel_rfl) Tryd.func3 (by kernel_rfl)
    (of_decide_eq_true (by kernel_rfl)) (by unfold Func.isWrapper; first | (rw [if_pos (by decide +kernel)]; kernel_rfl) | (rw [if_neg (by decide +kernel)]; exact ⟨rfl, rfl⟩))
    (fun os started H enc _ => lifted os started H enc)
theorem holds : Rows.FnExactCircleTextCardSaid :=
  Claim7.holds_tied_plain_at .later [] [.data, .data, .data] true Rows.fnExactCircleTextCard.stood.harness Rows.fnExactCircleTextCard.stood.looks said (fun _ h => by cases h) (by kernel_rfl) (fun _ h => by cases h) fnExactCircleText_row_tie rfl ⟨rfl, rfl⟩ (by kernel_rfl) rfl
    (fun f fn hf hfn => by
      obtain rfl : f = 3 := Option.some.inj ((show Tryd.prog.funcNamed "loop.example/g01122/laws.FnExactCircleText" = some 3 by kernel_rfl).symm.trans hf) |>.symm
      obtain rfl : fn = Tryd.f3 := (Option.some.inj (Tryd.func3.symm.trans hfn)).symm
      exact ⟨by kernel_rfl, fun j t ht => by
        rw [Tryd.params3] at ht
        have hm : t ∈ [23] := by simpa using Array.mem_of_getElem? ht
        have hall : ([23].all fun u => !Tryd.prog.wantsStandIn u) = true := by kernel_rfl
        exact (show Tryd.prog.wantsStandIn t = false by simpa using List.all_eq_true.1 hall t hm)⟩)
    (by kernel_rfl)
#print axioms holds
end Go.Proofs.YtcilfeibpnijcaaDoor.rowFnExactCircleText
