/- Lists of matrices of the call's own: how they read, and eqMatrixS at two that are the same. -/
import Derived.Test.YtkpnckcfoigceaaWmL
namespace Go.Proofs.Ytkpnckcfoigceaa
open Go.RowKit

theorem LaidMats.later {lo : Nat} {w w' : World} {g n cap k : Nat} {cut : Nat → Nat} {Z : List (List (List Int))} (h : LaidMats lo w g n cap k cut Z) (hL : Later w w') : LaidMats lo w' g n cap k cut Z := by
  obtain ⟨us, how, hg, hm, hs, hr⟩ := h
  exact ⟨us, ownsRow_keep how fun b hb => hL.block b (how.lt b hb).2, hg, hm, Nat.le_trans hs hL.size, fun i hi => (hr i hi).later hL⟩
theorem LaidMats.reads {lo : Nat} {w : World} {g cap : Nat} {cut : Nat → Nat} {Z : List (List (List Int))} (h : LaidMats lo w g Z.length cap Z.length cut Z) (hn : Z.length ≤ 1048576) : MatsR w (.slice (some ⟨g, 0, none⟩) Z.length cap) Z := by
  obtain ⟨us, how, _, _, _, hr⟩ := h
  have hl : us.length = Z.length := by have := how.1; omega
  refine ⟨_, cap, rfl, by omega, fun i hi => ⟨_, us.getD i undef, rfl, ?_, (hr i hi).rows⟩⟩
  rw [addr_add0, how.cellAt i (by omega), List.getD_eq_getElem?_getD, List.getElem?_eq_getElem (by omega)]
  rfl

set_option maxRecDepth 20000 in
set_option maxHeartbeats 1000000 in
theorem eqMatrixS_same (u v : Value) (Z : List (List (List Int))) (w : World) (hx : MatsR w u Z) (hy : MatsR w v Z) :
    Calls Try.prog 12 #[u, v] w fun e w' => e = .returned (.bool true) ∧ Later w w' := by
  obtain ⟨a, cap, rfl, hl, hc⟩ := hx
  obtain ⟨b, cap2, rfl, hl2, hc2⟩ := hy
  have HC := hid hc
  have HC2 := hid hc2
  have hne : ((Z.length : Int) != (Z.length : Int)) = false := by simp
  clear hc hc2
  go_enter Try.func12, Try.ntmps12
  go_wp2_with fail
  go_loopw [5] (fun i wr => ∃ k : Nat, k ≤ Z.length ∧ i = .int .i64 k ∧ Later w wr) (fun i _ => Z.length - (intOf i).toNat)
  case atStart => exact ⟨0, Nat.zero_le _, rfl, Later.refl w⟩
  case round =>
    obtain ⟨k, hk, rfl, hL⟩ := hrel
    have HLr := hid hL
    by_cases hlt : k < Z.length
    · have hltI : (k : Int) < (Z.length : Int) := by omega
      obtain ⟨ad, u1, rfl, hcell, hu1⟩ := HC.out k hlt
      obtain ⟨ad2, u2, rfl, hcell2, hu2⟩ := HC2.out k hlt
      have HU1 := hid (hu1.later hL)
      have HU2 := hid (hu2.later hL)
      replace hcell := hL.cell hcell
      replace hcell2 := hL.cell hcell2
      obtain ⟨X, hX⟩ : ∃ X, Z.getD k [] = X := ⟨_, rfl⟩
      rw [hX] at HU1 HU2
      obtain ⟨a1, c1, rfl, _⟩ := id HU1.out
      obtain ⟨a2, c2, rfl, _⟩ := id HU2.out
      have kb : ∀ p : LaterW wr, p.now.cell? (ad.add k) = some (.slice a1 X.length c1) := fun p => p.later.cell hcell
      have ka : ∀ p : LaterW wr, p.now.cell? (ad2.add k) = some (.slice a2 X.length c2) := fun p => p.later.cell hcell2
      have HPA := hid (fun p : LaterW wr => show Calls Try.prog 11 #[.agg #[.slice a1 X.length c1], .agg #[.slice a2 X.length c2]] p.now fun e w' => e = .returned (.bool true) ∧ Later p.now w' by have := eqMatrix_any _ _ X X _ (HU1.out.later p.later) (HU2.out.later p.later); rw [eqLL_self] at this; exact this)
      clear hcell hcell2 hX hu1 hu2 hL
      go_wp2_with fail
      refine wp_region_quiet_later (by kernel_rfl) (by kernel_rfl) ?_
      repeat
        with_reducible refine wpQuiet_step (fun K hK => ?_)
        go_simp
        first
          | (with_reducible refine hK _ ?_; clear hK K)
          | (apply Exists.intro
             refine ⟨fun _ => ?_, hK _ ?_⟩
             (go_at_call 11; exact Calls.laterW _ (HPA.out _))
             clear hK K)
      with_reducible refine wpQuiet_nil ?_
      intro _ hw'
      obtain ⟨⟨wq, hLq⟩, hw''⟩ := hw'
      subst hw''
      have HL3 := hid (HLr.out.trans hLq)
      clear hLq
      go_wp2_with fail
      go_roundw
      case rel => exact ⟨k + 1, hlt, by go_num, HL3.out⟩
      case measure => simp [intOf]; omega
    · go_wp2_with fail
      go_ret
      exact ⟨rfl, HLr.out⟩
end Go.Proofs.Ytkpnckcfoigceaa
