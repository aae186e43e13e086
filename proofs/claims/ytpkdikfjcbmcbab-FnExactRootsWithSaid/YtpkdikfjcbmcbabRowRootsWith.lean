/- The law FnExactRootsWith: for every input it answers true, and its arguments read afterwards as before. No condition. -/
import Derived.Test.YtpkdikfjcbmcbabRows
import Derived.Test.YtpkdikfjcbmcbabLawRootsWith
import Derived.Test.YtpkdikfjcbmcbabRtAll
import Derived.Test.YtpkdikfjcbmcbabOpen
import Derived.OpenShut
import Derived.ShutString
import Derived.ChangeOld
import Derived.Carry
namespace Go.Proofs.Ytpkdikfjcbmcbab
open Go.RowKit
theorem off_rowsR (L : List (List Int)) (h : ∀ q ∈ L, q.length = 4) (hl : L.length ≤ 100000000) : off L L.length ≤ 1000000000000 := by
  have h1 := off_bound L 4 L.length (fun i hi => by
    have := h (L.getD i []) (by rw [List.getD_eq_getElem?_getD, List.getElem?_eq_getElem hi]; exact List.getElem_mem hi)
    omega) (Nat.le_refl _)
  omega
theorem rootsC_mem (n b : Int) (k : Nat) : ∀ c, ∀ q ∈ rootsC n b k c, q.length = 4 := by
  induction k with
  | zero => intro c q hq; simp [rootsC] at hq
  | succ k ih =>
    intro c q hq
    unfold rootsC at hq
    split at hq
    · rcases List.mem_append.1 hq with h | h
      · unfold rootAt at h
        split at h
        · rw [List.mem_singleton] at h; subst h; rfl
        · simp at h
      · exact ih _ q h
    · simp at hq
theorem rootsN_mem (n : Int) : ∀ q ∈ rootsN n, q.length = 4 := by
  intro q hq
  unfold rootsN rootsTo at hq
  obtain ⟨j, _, hj⟩ := List.mem_flatMap.1 hq
  exact rootsC_mem _ _ _ _ q hj
theorem rootsAns_off (n : Int) : off ((rootsAns n).getD []) ((rootsAns n).getD []).length ≤ 1000000000000 := by
  unfold rootsAns
  split
  · rename_i h
    have := rootsN_len (within130.1 h)
    simp only [Option.getD_some]
    exact off_rowsR _ (rootsN_mem n) (by omega)
  · simp [off]
theorem lawRootsWith (x : Int) (w : World) (_hf : I64 x) :
    Calls Try.prog 6 #[.int .i64 x] w fun e w' => e = .returned (.bool true) ∧ Later w w' :=
  lawRootsWith_gen x (rootsAns x) (rootsAns_off x) (specRootsWith_any x) (implRootsWith_any x) w
end Go.Proofs.Ytpkdikfjcbmcbab
namespace Go.Proofs.Ytpkdikfjcbmcbab.rowFnExactRootsWith
open Go.ChangeShapes Go.WideShapes Go.ChangeAt Go.RowKit

theorem own : ownKnob Try.prog.godebug = none := by kernel_rfl
theorem laidOut : laidOutB Try.prog = true := by kernel_rfl

set_option maxRecDepth 100000 in
theorem lifted (os : Os) (started : os.Started) (H : Type) (enc : TypeId × Value → H) :
    ReturnsInHanded {} Try.checked os 6 .any (Rows.fnExactRootsWithSpec.pre6 enc Try.prog Try.f6 Rows.fnExactRootsWithRow.domain false) (Rows.fnExactRootsWithSpec.post enc Try.prog Try.f6 false true false false) := by
  refine returnsInHanded_of_change (C := Try.checked) own started (by kernel_rfl) Try.func6
    (ChangeSpec.witness6 (enc := enc) (C := Try.checked) false ⟨#[], #[.int .i64 0], []⟩ 8 (by kernel_rfl) (by kernel_rfl) (by kernel_rfl) (by kernel_rfl)) ?_
  intro W base args ds gs before hval0 hW hcnd _
  have hval : ∀ (j : Nat) t v, Try.f6.params[j]? = some t → args[j]? = some v → Value.okWide Try.prog W .any base t v := hval0
  have hW' := hW
  obtain ⟨p, q, hA0, hV, rfl, hfz, hnd⟩ := hW
  have hA : DataW.TrodAll enc Try.prog W 0 (fun _ => true) true Try.f6.params.toList args.toList ds p := hA0
  rw [Try.params6] at hA hval
  obtain ⟨v0, vs0, d0, ds0, p0, q0, hargs, rfl, rfl, h0, r0⟩ := trodAll_cons hA
  obtain ⟨rfl, rfl, rfl⟩ := trodAll_nil r0
  obtain rfl : args = #[v0] := by cases args; simp_all
  obtain ⟨rfl, rfl⟩ := trodVars_none hV
  have k0 := h0
  have lt0 : ∀ x ∈ p0, x.block < W.heap.size := by obtain ⟨m, hm⟩ := k0; exact DataW.trod_lt m _ _ _ hm
  obtain ⟨x0, rfl, rfl, rfl, wf0⟩ := open_int Try.underlying3 (hval 0 3 v0 rfl rfl) h0
  clear hA0 hval0
  refine (lawRootsWith x0 W (I64.of_wf wf0)).mono fun e W' ⟨he, bel⟩ => ?_
  subst he
  exact ⟨_, rfl, _, _, _, [], _, [], hW', trodAll_mk1 (shut_bool Try.underlying4 _), (trodAll_cons_mk (Below.trod laidOut (by kernel_rfl) (of_decide_eq_true (by kernel_rfl)) k0 bel lt0) trodAll_mk0), rfl, bel.frame _, fun h => by cases h⟩

theorem holds : Rows.FnExactRootsWithSaid :=
  OpenClaim.holds_of_wide 6 Try.f6 rfl rfl rfl rfl rfl rfl rfl ⟨rfl, rfl, rfl, rfl, rfl⟩ rfl rfl rfl rfl rfl (by kernel_rfl) Try.func6 (by kernel_rfl)
    (of_decide_eq_true (by kernel_rfl)) (by unfold Func.isWrapper; first | (rw [if_pos (by decide +kernel)]; kernel_rfl) | (rw [if_neg (by decide +kernel)]; exact ⟨rfl, rfl⟩))
    (fun os started H enc _ => lifted os started H enc)
#print axioms holds
end Go.Proofs.Ytpkdikfjcbmcbab.rowFnExactRootsWith
