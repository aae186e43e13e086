/- MarkovUp in the model. -/
import Derived.Test.YtdahhcigphhfdabMuS
namespace Go.Proofs.Ytdahhcigphhfdab
open Go.RowKit

set_option maxRecDepth 20000 in
set_option maxHeartbeats 1000000 in
theorem specMarkovUp_any (v : Value) (zs : List Int) (w : World) (h : Ints w v zs) :
    Calls Try.prog 48 #[v] w fun e w' => RowsAns w (upAnsM zs) e w' := by
  cases hg : mkGoodW zs
  · have HA := hid (show upAnsM zs = none by unfold upAnsM; rw [if_neg (by simp [hg])])
    have HG := hid hg
    have H := hid h
    obtain ⟨a, cap, rfl, hl, _⟩ := id h
    clear hg h
    go_enter Try.func48, Try.ntmps48
    go_wp2_with fail
    refine (mkGood_as _ zs false _ HG.out H.out).mono ?_
    rintro e w' ⟨rfl, n, rfl⟩
    go_wp2_with fail
    go_ret2
    rw [HA.out]
    exact ⟨_, rfl, OwnRows.none_ _ _ _, Later.drewN _ _⟩
  · obtain ⟨x, y, z, rfl, hT⟩ := mkGoodW_T3 hg
    obtain ⟨x', y', z', ad, cap, e1, rfl, c0, c1, c2⟩ := h.three rfl
    simp only [List.cons.injEq, and_true] at e1
    obtain ⟨rfl, rfl, rfl⟩ := e1
    have HA := hid (show upAnsM [x, y, z] = some (upsU x y z) by unfold upAnsM; rw [if_pos hg]; rfl)
    have HG := hid hg
    have H := hid h
    have HT := hid hT
    clear hg h c0 c1 c2 hT
    go_enter Try.func48, Try.ntmps48
    go_wp2_with fail
    refine (mkGood_as (.slice (some ad) 3 cap) [x, y, z] true _ HG.out H.out).mono ?_
    rintro e w' ⟨rfl, n, rfl⟩
    go_wp2_with fail
    refine (mkUp_any x y z ad cap _ HT.out (H.out.later (Later.drewN w n))).mono ?_
    rintro e w2 ⟨v2, rfl, ho, hL⟩
    obtain ⟨a2, c2, rfl, _⟩ := ho.shape
    have HO := hid (ho.wide (Later.drewN w n).size (Nat.le_refl _))
    have HL := hid ((Later.drewN w n).trans hL)
    clear ho hL
    go_wp2_with fail
    go_ret2
    rw [HA.out]
    exact ⟨_, rfl, HO.out, HL.out⟩
end Go.Proofs.Ytdahhcigphhfdab
