/- Four curvatures: the model's swap, the index of the swap down. -/
import Derived.Test.YtofmmegpadojlabQdS
import Derived.Test.YtofmmegpadojlabHuV
namespace Go.Proofs.Ytofmmegpadojlab
open Go.RowKit

theorem Md.getD {a b c d : Int} (h : Md a b c d) (i : Nat) (hi : i < 4) : -10000000 ≤ [a, b, c, d].getD i 0 ∧ [a, b, c, d].getD i 0 ≤ 10000000 := by
  obtain ⟨a1, a2, b1, b2, c1, c2, d1, d2⟩ := h
  have h4 : i = 0 ∨ i = 1 ∨ i = 2 ∨ i = 3 := by omega
  rcases h4 with rfl | rfl | rfl | rfl <;> simp <;> omega
set_option maxRecDepth 20000 in
set_option maxHeartbeats 2000000 in
theorem apSwap_any (v : Value) (a b c d : Int) (i : Nat) (w : World) (hi : i < 4) (hm : Md a b c d) (h : Ints w v [a, b, c, d]) :
    Calls Try.prog 109 #[v, .int .i64 i] w fun e w' => MadeInts w (swL [a, b, c, d] i) e w' := by
  obtain ⟨ad, cap, rfl, _⟩ := h.four
  have H := hid h
  have HM := hid hm
  have hmi := hm.getD i hi
  obtain ⟨x, hx⟩ : ∃ x, [a, b, c, d].getD i 0 = x := ⟨_, rfl⟩
  have HX := hid hx
  rw [hx] at hmi
  have HSW := hid (show swN [a, b, c, d] i = 2 * (a + b + c + d - x) - x by unfold swN; rw [sum4, hx])
  obtain ⟨x1, x2⟩ := hmi
  obtain ⟨s, hs⟩ : ∃ s, a + b + c + d = s := ⟨_, rfl⟩
  have hsb : -40000000 ≤ s ∧ s ≤ 40000000 := by have := hm.a1; have := hm.a2; have := hm.b1; have := hm.b2; have := hm.c1; have := hm.c2; have := hm.d1; have := hm.d2; omega
  obtain ⟨s1, s2⟩ := hsb
  have HSM := hid (fun (v : Value) (w0 : World) (h0 : Ints w0 v [a, b, c, d]) => show Calls Try.prog 136 #[v] w0 fun e w' => e = .returned (.int .i64 s) ∧ Drew w0 w' from hs ▸ apSum_any v a b c d w0 hm h0)
  rw [hs] at HSW
  obtain ⟨_, _, e1, _, hcc⟩ := id h
  simp only [Value.slice.injEq] at e1
  obtain ⟨rfl, _, rfl⟩ := e1
  obtain ⟨ad', e2, hcell⟩ := hcc i (by simpa using hi)
  simp only [Option.some.injEq] at e2
  subst e2
  rw [hx] at hcell
  have hiI : (i : Int) < 4 := by omega
  have i0 : (0 : Int) ≤ (i : Int) := by omega
  have ww1 : IntKind.i64.wrap (s - x) = s - x := by rw [IntWalk.i64_left]; exact IntWalk.wrap64_in _ (by omega)
  have ww2 : IntKind.i64.wrap (2 * (s - x)) = 2 * (s - x) := by rw [IntWalk.i64_left]; exact IntWalk.wrap64_in _ (by omega)
  have ww3 : IntKind.i64.wrap (2 * (s - x) - x) = 2 * (s - x) - x := by rw [IntWalk.i64_left]; exact IntWalk.wrap64_in _ (by omega)
  clear h hm hx hs hcc
  go_enter Try.func109, Try.ntmps109
  go_wp2_with fail
  refine (l1OwnH_any ad 4 cap [a, b, c, d] _ rfl (by omega) H.out).mono ?_
  rintro e w2 ⟨v2, rfl, ho2, hL2⟩
  obtain ⟨a2, c2, rfl, hkc, _, hxl, hcs⟩ := ownsRow_shape ho2.1
  obtain ⟨g, rfl, hc2⟩ := hcs i (by simpa using hi)
  have hfr := ho2.1.frozenAt i
  have hgl := (ho2.1.lt g rfl).1
  have HO2 := hid ho2
  have HL2 := hid hL2
  have H2 := hid (H.out.later hL2)
  replace hcell := hL2.cell hcell
  have hat : ([a, b, c, d].map (Value.int .i64))[i]? = some (.int .i64 x) := by
    rw [← HX.out]
    have h4 : i = 0 ∨ i = 1 ∨ i = 2 ∨ i = 3 := by omega
    rcases h4 with rfl | rfl | rfl | rfl <;> simp
  rw [hat] at hc2
  clear hat
  clear hcs hL2 ho2 hxl
  go_wp2_with fail
  go_region_with (first | (go_at_call 136; refine (HSM.out _ _ (H2.out.later (Later.drew _))).mono ?_; rintro e w3 ⟨rfl, nd, rfl⟩))
  all_goals
    have HO3 := hid ((HO2.out.later (Later.drewN w2 (1 + nd))).storeAt i (2 * (s - x) - x))
    have HL3 := hid (show Later w ((w2.drewN (1 + nd)).setCell ⟨g, i, none⟩ (.int .i64 (2 * (s - x) - x))) from (HL2.out.trans (Later.drewN w2 (1 + nd))).setCell hgl _)
    generalize (w2.drewN (1 + nd)).setCell ⟨g, i, none⟩ (.int .i64 (2 * (s - x) - x)) = w4 at HO3 HL3 ⊢
    clear hcell hc2 hfr
    go_wp2_with fail
    go_ret
    refine ⟨_, rfl, ?_, HL3.out⟩
    have e : swL [a, b, c, d] i = [a, b, c, d].set i (2 * (s - x) - x) := by unfold swL; rw [HSW.out]
    rw [e]
    exact ⟨HO3.out.1, fun b hb => (HO3.out.1.lt b hb).2⟩
end Go.Proofs.Ytofmmegpadojlab
