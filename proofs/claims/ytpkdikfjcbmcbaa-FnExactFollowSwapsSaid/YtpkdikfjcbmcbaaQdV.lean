/- Four curvatures: IsQuad, SwapAt, IsRoot, DownSwap (the model). -/
import Derived.Test.YtpkdikfjcbmcbaaQdU
namespace Go.Proofs.Ytpkdikfjcbmcbaa
open Go.RowKit

theorem QD.md {a b c d : Int} (h : QD a b c d) : Md a b c d := by
  obtain ⟨⟨a1, a2⟩, ⟨b1, b2⟩, ⟨c1, c2⟩, ⟨d1, d2⟩, _, _⟩ := h
  exact ⟨by omega, by omega, by omega, by omega, by omega, by omega, by omega, by omega⟩
theorem within03 {i : Int} : within 0 3 i = true ↔ 0 ≤ i ∧ i ≤ 3 := by simp [within]
theorem downIx_last {zs : List Int} (h : lastQ zs = true) : downIx zs = -1 := by unfold downIx; rw [if_pos h]
theorem downIx_next {zs : List Int} (h : lastQ zs = false) : downIx zs = (gIx zs : Int) := by unfold downIx; rw [h]; simp
theorem apDown_zs (v : Value) (zs : List Int) (w : World) (hg : apB zs = true) (h : Ints w v zs) :
    Calls Try.prog 29 #[v] w fun e w' => e = .returned (.int .i64 (downIx zs)) ∧ Later w w' := by
  obtain ⟨a, b, c, d, rfl, hq⟩ := apB_four hg
  exact apDown_any v a b c d w hq.md h
theorem apSwap_zs (v : Value) (zs : List Int) (i : Nat) (w : World) (hi : i < 4) (hg : apB zs = true) (h : Ints w v zs) :
    Calls Try.prog 28 #[v, .int .i64 i] w fun e w' => MadeInts w (swL zs i) e w' := by
  obtain ⟨a, b, c, d, rfl, hq⟩ := apB_four hg
  exact apSwap_any v a b c d i w hi hq.md h
theorem specIsQuad_any (v : Value) (zs : List Int) (w : World) (h : Ints w v zs) :
    Calls Try.prog 9 #[v] w fun e w' => BoolRes w (apB zs) e w' := by
  obtain ⟨p, cap, rfl, hl, _⟩ := id h
  have H := hid h
  clear h
  go_enter Try.func9, Try.ntmps9
  go_wp2_with fail
  refine (apGood_any _ zs _ H.out).mono ?_
  rintro e w' ⟨rfl, rfl⟩
  go_wp2_with fail
  go_ret
  exact ⟨rfl, Later.refl _⟩
set_option maxRecDepth 20000 in
set_option maxHeartbeats 2000000 in
theorem specSwapAt_any (v : Value) (zs : List Int) (i : Int) (w : World) (h : Ints w v zs) :
    Calls Try.prog 13 #[v, .int .i64 i] w fun e w' => IntsAns w (swapAns zs i) e w' := by
  obtain ⟨p, cap, rfl, hl, _⟩ := id h
  have H := hid h
  clear h
  cases hg : apB zs
  · have HG := hid hg
    have HA := hid (show swapAns zs i = none by unfold swapAns; rw [hg]; simp)
    clear hg
    go_enter Try.func13, Try.ntmps13
    go_wp2_with fail
    refine (apGood_as _ zs _ _ HG.out H.out).mono ?_
    rintro e w' ⟨rfl, rfl⟩
    go_wp2_with fail
    go_ret2
    rw [HA.out]
    exact ⟨_, rfl, OwnInts.nothing0 _ _ _, Later.refl _⟩
  · have HG := hid hg
    cases hi : within 0 3 i
    · have HI := hid hi
      have HA := hid (show swapAns zs i = none by unfold swapAns; rw [hi]; simp)
      clear hg hi
      go_enter Try.func13, Try.ntmps13
      go_wp2_with fail
      refine (apGood_as _ zs _ _ HG.out H.out).mono ?_
      rintro e w' ⟨rfl, rfl⟩
      go_wp2_with fail
      refine (l1In_as _ _ _ _ _ HI.out).mono ?_
      rintro e w' ⟨rfl, rfl⟩
      go_wp2_with fail
      go_ret2
      rw [HA.out]
      exact ⟨_, rfl, OwnInts.nothing0 _ _ _, Later.refl _⟩
    · have HI := hid hi
      have hi2 := within03.1 hi
      obtain ⟨j, rfl⟩ : ∃ j : Nat, i = (j : Int) := ⟨i.toNat, by omega⟩
      have HJ := hid (show j < 4 by omega)
      have HGS := hid (swL_good hg j HJ.out)
      have HA1 := hid (fun (hx : swN zs j ≤ 100000) => show swapAns zs j = some (swL zs j) by unfold swapAns; rw [if_pos ⟨hg, hi, by simpa using hx⟩]; simp)
      have HA2 := hid (fun (hx : 100000 < swN zs j) => show swapAns zs j = none by unfold swapAns; rw [if_neg]; rintro ⟨_, _, h3⟩; simp at h3; omega)
      obtain ⟨a, b, c, d, rfl, hq⟩ := apB_four hg
      have HQ := hid hq.md
      clear hg hi hi2 hq
      go_enter Try.func13, Try.ntmps13
      go_wp2_with fail
      refine (apGood_as _ _ _ _ HG.out H.out).mono ?_
      rintro e w' ⟨rfl, rfl⟩
      go_wp2_with fail
      refine (l1In_as _ _ _ _ _ HI.out).mono ?_
      rintro e w' ⟨rfl, rfl⟩
      go_wp2_with fail
      refine (apSwap_any _ a b c d j _ HJ.out HQ.out H.out).mono ?_
      rintro e w2 ⟨v2, rfl, ho, hL⟩
      have HO := hid ho
      have HL := hid hL
      clear ho hL
      by_cases hx : swN [a, b, c, d] j ≤ 100000
      · have HGS2 := hid (show apB (swL [a, b, c, d] j) = true by rw [HGS.out, decide_eq_true hx])
        have HA := hid (HA1.out hx)
        clear hx
        go_wp2_with fail
        refine (apGood_as _ _ _ _ HGS2.out HO.out.ints).mono ?_
        rintro e w' ⟨rfl, rfl⟩
        go_wp2_with fail
        go_ret2
        rw [HA.out]
        exact ⟨_, rfl, HO.out, HL.out⟩
      · have HGS2 := hid (show apB (swL [a, b, c, d] j) = false by rw [HGS.out, decide_eq_false hx])
        have HA := hid (HA2.out (by omega))
        clear hx
        go_wp2_with fail
        refine (apGood_as _ _ _ _ HGS2.out HO.out.ints).mono ?_
        rintro e w' ⟨rfl, rfl⟩
        go_wp2_with fail
        go_ret2
        rw [HA.out]
        exact ⟨_, rfl, OwnInts.nothing0 _ _ _, HL.out⟩
set_option maxRecDepth 20000 in
set_option maxHeartbeats 2000000 in
theorem specIsRootQ_any (v : Value) (zs : List Int) (w : World) (h : Ints w v zs) :
    Calls Try.prog 17 #[v] w fun e w' => BoolAns w (isRootAns zs) e w' := by
  obtain ⟨p, cap, rfl, hl, _⟩ := id h
  have H := hid h
  clear h
  cases hg : apB zs
  · have HG := hid hg
    have HA := hid (show isRootAns zs = none by unfold isRootAns; rw [hg]; simp)
    clear hg
    go_enter Try.func17, Try.ntmps17
    go_wp2_with fail
    refine (apGood_as _ zs _ _ HG.out H.out).mono ?_
    rintro e w' ⟨rfl, rfl⟩
    go_wp2_with fail
    go_ret2
    exact ⟨by rw [HA.out]; rfl, Later.refl _⟩
  · have HG := hid hg
    have HA := hid (show isRootAns zs = some (lastQ zs) by unfold isRootAns; rw [if_pos hg])
    obtain ⟨a, b, c, d, rfl, hq⟩ := apB_four hg
    have HQ := hid hq.md
    cases hlq : lastQ [a, b, c, d]
    · have HD := hid (downIx_next hlq)
      have HLQ := hid hlq
      have hgi : (0 : Int) ≤ (gIx [a, b, c, d] : Int) := by omega
      obtain ⟨g, hgg⟩ : ∃ g, gIx [a, b, c, d] = g := ⟨_, rfl⟩
      rw [hgg] at HD
      clear hg hq hlq hgi hgg
      go_enter Try.func17, Try.ntmps17
      go_wp2_with fail
      refine (apGood_as _ _ _ _ HG.out H.out).mono ?_
      rintro e w' ⟨rfl, rfl⟩
      go_wp2_with fail
      refine (apDown_as _ a b c d _ _ HQ.out HD.out H.out).mono ?_
      rintro e w2 ⟨rfl, hL⟩
      have HL := hid hL
      have hn0 : ¬ (g : Int) < 0 := by omega
      clear hL
      go_wp2_with fail
      go_ret2
      exact ⟨by rw [HA.out, HLQ.out]; simp, HL.out⟩
    · have HD := hid (downIx_last hlq)
      have HLQ := hid hlq
      clear hg hq hlq
      go_enter Try.func17, Try.ntmps17
      go_wp2_with fail
      refine (apGood_as _ _ _ _ HG.out H.out).mono ?_
      rintro e w' ⟨rfl, rfl⟩
      go_wp2_with fail
      refine (apDown_as _ a b c d _ _ HQ.out HD.out H.out).mono ?_
      rintro e w2 ⟨rfl, hL⟩
      have HL := hid hL
      clear hL
      go_wp2_with fail
      go_ret2
      exact ⟨by rw [HA.out, HLQ.out]; simp, HL.out⟩
set_option maxRecDepth 20000 in
set_option maxHeartbeats 2000000 in
theorem specDownSwap_any (v : Value) (zs : List Int) (w : World) (h : Ints w v zs) :
    Calls Try.prog 19 #[v] w fun e w' => NumAns w (downSwapAns zs) e w' := by
  obtain ⟨p, cap, rfl, hl, _⟩ := id h
  have H := hid h
  clear h
  cases hg : apB zs
  · have HG := hid hg
    have HA := hid (show downSwapAns zs = none by unfold downSwapAns; rw [hg]; simp)
    clear hg
    go_enter Try.func19, Try.ntmps19
    go_wp2_with fail
    refine (apGood_as _ zs _ _ HG.out H.out).mono ?_
    rintro e w' ⟨rfl, rfl⟩
    go_wp2_with fail
    go_ret2
    exact ⟨by rw [HA.out]; rfl, Later.refl _⟩
  · have HG := hid hg
    obtain ⟨a, b, c, d, rfl, hq⟩ := apB_four hg
    have HQ := hid hq.md
    cases hlq : lastQ [a, b, c, d]
    · have HD := hid (downIx_next hlq)
      have HA := hid (show downSwapAns [a, b, c, d] = some (gIx [a, b, c, d] : Int) by unfold downSwapAns; rw [if_pos ⟨hg, hlq⟩])
      obtain ⟨g, hgg⟩ : ∃ g, gIx [a, b, c, d] = g := ⟨_, rfl⟩
      rw [hgg] at HD HA
      clear hg hq hlq hgg
      go_enter Try.func19, Try.ntmps19
      go_wp2_with fail
      refine (apGood_as _ _ _ _ HG.out H.out).mono ?_
      rintro e w' ⟨rfl, rfl⟩
      go_wp2_with fail
      refine (apDown_as _ a b c d _ _ HQ.out HD.out H.out).mono ?_
      rintro e w2 ⟨rfl, hL⟩
      have HL := hid hL
      have H2 := hid (H.out.later hL)
      have hn0 : ¬ (g : Int) < 0 := by omega
      clear hL
      go_wp2_with fail
      refine (apDown_as _ a b c d _ _ HQ.out HD.out H2.out).mono ?_
      rintro e w3 ⟨rfl, hL3⟩
      have HL3 := hid (HL.out.trans hL3)
      clear hL3
      go_wp2_with fail
      go_ret2
      exact ⟨by rw [HA.out]; simp, HL3.out⟩
    · have HD := hid (downIx_last hlq)
      have HA := hid (show downSwapAns [a, b, c, d] = none by unfold downSwapAns; rw [hlq]; simp)
      clear hg hq hlq
      go_enter Try.func19, Try.ntmps19
      go_wp2_with fail
      refine (apGood_as _ _ _ _ HG.out H.out).mono ?_
      rintro e w' ⟨rfl, rfl⟩
      go_wp2_with fail
      refine (apDown_as _ a b c d _ _ HQ.out HD.out H.out).mono ?_
      rintro e w2 ⟨rfl, hL⟩
      have HL := hid hL
      clear hL
      go_wp2_with fail
      go_ret2
      exact ⟨by rw [HA.out]; rfl, HL.out⟩
end Go.Proofs.Ytpkdikfjcbmcbaa
