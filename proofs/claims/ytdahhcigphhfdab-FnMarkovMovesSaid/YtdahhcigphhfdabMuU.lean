/- MarkovUp in the program. -/
import Derived.Test.YtdahhcigphhfdabMuO
namespace Go.Proofs.Ytdahhcigphhfdab
open Go.RowKit

set_option maxRecDepth 20000 in
set_option maxHeartbeats 4000000 in
theorem implMarkovUp_any (v : Value) (zs : List Int) (w : World) (h : Ints w v zs) :
    Calls Try.prog 47 #[v] w fun e w' => RowsAns w (upAnsM zs) e w' := by
  cases hg : mkGoodW zs
  · have HA := hid (show upAnsM zs = none by unfold upAnsM; rw [if_neg (by simp [hg])])
    have HG := hid hg
    have H := hid h
    obtain ⟨a, cap, rfl, hl, _⟩ := id h
    clear hg h
    go_enter Try.func47, Try.ntmps47
    go_wp2_with fail
    refine (implIsMarkov_any _ zs _ H.out).mono ?_
    rintro e w' ⟨rfl, hL⟩
    rw [HG.out]
    have HL := hid hL
    clear hL
    go_wp2_with fail
    go_ret2
    rw [HA.out]
    exact ⟨_, rfl, OwnRows.none_ _ _ _, HL.out⟩
  · obtain ⟨x, y, z, rfl, hT⟩ := mkGoodW_T3 hg
    obtain ⟨x', y', z', ad, cap, e1, rfl, c0, c1, c2⟩ := h.three rfl
    simp only [List.cons.injEq, and_true] at e1
    obtain ⟨rfl, rfl, rfl⟩ := e1
    have HA := hid (show upAnsM [x, y, z] = some (upsU x y z) by unfold upAnsM; rw [if_pos hg]; rfl)
    have HG := hid hg
    have H := hid h
    have HE := hid (ups_eq hT)
    have HUL := hid (upT_len x y z 1000000000 3)
    have HSL := hid (show (sortR (upT x y z 1000000000 3)).length = (upT x y z 1000000000 3).length from List.length_mergeSort _)
    have HCL := hid (compR_le (sortR (upT x y z 1000000000 3)) (sortR (upT x y z 1000000000 3)).length)
    have HC := hid (show Cnt0 x ∧ Cnt0 y ∧ Cnt0 z from ⟨⟨by have := hT.1.1; omega, hT.1.2⟩, ⟨by have := hT.2.1.1; omega, hT.2.1.2⟩, ⟨by have := hT.2.2.1.1; omega, hT.2.2.1.2⟩⟩)
    have ha := arrayAt3 ad cap
    obtain ⟨N, hN⟩ : ∃ N, upT x y z 1000000000 3 = N := ⟨_, rfl⟩
    rw [hN] at HE HUL HSL HCL
    have HN := hid hN
    clear hg h hT hN
    go_enter Try.func47, Try.ntmps47
    go_wp2_with fail
    refine (implIsMarkov_any (.slice (some ad) 3 cap) [x, y, z] _ H.out).mono ?_
    rintro e w1 ⟨rfl, hL⟩
    rw [HG.out]
    replace c0 := hL.cell c0
    replace c1 := hL.cell c1
    replace c2 := hL.cell c2
    have HL := hid hL
    clear hL
    go_wp2_with fail
    refine (upsWithin_any x y z 1000000000 w1 HC.out.1 HC.out.2.1 HC.out.2.2).mono ?_
    rintro e w2 ⟨v2, rfl, hO2, hL2⟩
    rw [HN.out] at hO2
    have HO2 := hid hO2
    have HL2 := hid (HL.out.trans hL2)
    have HLO := hid (show w.heap.size ≤ w1.heap.size from HL.out.size)
    obtain ⟨a2, c2', rfl, _⟩ := hO2.shape
    clear hO2 hL2 c0 c1 c2
    go_wp2_with fail
    refine (sortT_any w _ N w2 HL2.out HLO.out (by have := HUL.out; omega) HO2.out).mono ?_
    rintro e w3 ⟨rfl, hO3, hL3⟩
    have HO3 := hid hO3
    have HL3 := hid hL3
    clear hO3 hL3
    go_wp2_with fail
    refine (compactO_any w _ (sortR N) w3 HL3.out HLO.out (by have := HUL.out; have := HSL.out; omega) HO3.out).mono ?_
    rintro e w4 ⟨v4, rfl, hO4, hL4⟩
    have HO4 := hid hO4
    have HL4 := hid hL4
    obtain ⟨a4, c4', rfl, _⟩ := hO4.shape
    clear hO4 hL4
    go_wp2_with fail
    refine (listsOf_any _ (compR (sortR N) (sortR N).length) w4 (by have := HUL.out; have := HSL.out; have := HCL.out; omega) (HO4.out.tris (by have := HUL.out; have := HSL.out; have := HCL.out; omega))).mono ?_
    rintro e w5 ⟨v5, rfl, ho5, hL5⟩
    rw [HE.out] at ho5
    have HO5 := hid (ho5.wide HL4.out.size (Nat.le_refl _))
    have HL5 := hid (HL4.out.trans hL5)
    obtain ⟨a5, c5, rfl, _⟩ := ho5.shape
    clear ho5 hL5
    go_wp2_with fail
    go_ret2
    rw [HA.out]
    exact ⟨_, rfl, HO5.out, HL5.out⟩
end Go.Proofs.Ytdahhcigphhfdab
