/- MultiplyFour in the model. -/
import Derived.Test.YtofmmegpadojlaaSqBB
namespace Go.Proofs.Ytofmmegpadojlaa
open Go.RowKit

set_option maxRecDepth 20000 in
set_option maxHeartbeats 2000000 in
theorem specMultiplyFour_any (v0 : Value) (z0 : List Int) (v1 : Value) (z1 : List Int) (w : World) (h0 : Ints w v0 z0) (h1 : Ints w v1 z1) :
    Calls Try.prog 27 #[v0, v1] w fun e w' => IntsAns w (mulFourAns z0 z1) e w' := by
  have H0 := hid h0
  have H1 := hid h1
  cases hp0 : partsB 4 z0
  · have HP0 := hid hp0
    have HA := hid (show mulFourAns z0 z1 = none by unfold mulFourAns; rw [if_neg (by rw [hp0]; simp)])
    clear h0 h1 hp0
    go_enter Try.func27, Try.ntmps27
    go_wp2_with (go_at_call 81; refine (sqParts_as _ z0 4 _ _ (by omega) HP0.out H0.out).mono ?_; rintro e w2 ⟨rfl, rfl⟩)
    go_ret2
    exact ⟨_, by rw [HA.out]; rfl, by rw [HA.out]; exact ⟨World.ownsRow_nil _ _ _ _, fun b hb => by simp [Value.ownBlock] at hb⟩, Later.refl _⟩
  · cases hp1 : partsB 4 z1
    · have HP0 := hid hp0
      have HP1 := hid hp1
      have HA := hid (show mulFourAns z0 z1 = none by unfold mulFourAns; rw [if_neg (by rw [hp1]; simp)])
      clear h0 h1 hp0 hp1
      go_enter Try.func27, Try.ntmps27
      go_wp2_with (first | (go_at_call 81; refine (sqParts_as _ z0 4 _ _ (by omega) HP0.out H0.out).mono ?_; rintro e w2 ⟨rfl, rfl⟩; clear HP0) | (go_at_call 81; refine (sqParts_as _ z1 4 _ _ (by omega) HP1.out H1.out).mono ?_; rintro e w3 ⟨rfl, rfl⟩))
      go_ret2
      exact ⟨_, by rw [HA.out]; rfl, by rw [HA.out]; exact ⟨World.ownsRow_nil _ _ _ _, fun b hb => by simp [Value.ownBlock] at hb⟩, Later.refl _⟩
    · have HP0 := hid hp0
      have HP1 := hid hp1
      have HA := hid (show mulFourAns z0 z1 = some (mul4L z0 z1) from if_pos ⟨hp0, hp1⟩)
      obtain ⟨a, b, c, d, rfl, ha, hb, hc, hd⟩ := partsB_4 hp0
      obtain ⟨x, y, z, t, rfl, hx, hy, hz, ht⟩ := partsB_4 hp1
      have HF := hid (fun w0 => sqFour_any v0 v1 a b c d x y z t w0 ha.six hb.six hc.six hd.six hx.six hy.six hz.six ht.six)
      clear h0 h1 hp0 hp1
      go_enter Try.func27, Try.ntmps27
      go_wp2_with (first | (go_at_call 81; refine (sqParts_as _ [a, b, c, d] 4 _ _ (by omega) HP0.out H0.out).mono ?_; rintro e w2 ⟨rfl, rfl⟩; clear HP0) | (go_at_call 81; refine (sqParts_as _ [x, y, z, t] 4 _ _ (by omega) HP1.out H1.out).mono ?_; rintro e w3 ⟨rfl, rfl⟩) | (go_at_call 78; refine (HF.out _ H0.out H1.out).mono ?_; rintro e w4 ⟨v, rfl, hO, hL⟩))
      go_ret2
      rw [HA.out]
      exact ⟨v, rfl, hO, hL⟩
end Go.Proofs.Ytofmmegpadojlaa
