/- Four curvatures: the way down (the model). -/
import Derived.Test.YtpkdikfjcbmcbabQdV
import Derived.Test.YtpkdikfjcbmcbabRowsK
namespace Go.Proofs.Ytpkdikfjcbmcbab
open Go.RowKit

theorem below_bd {ys zs : List Int} {L : List (List Int)} (h : L ++ belowQ ys = wayQ zs) : (wayQ zs).take L.length = L ∧ L.length ≤ (wayQ zs).length := by
  rw [← h]; simp
set_option maxRecDepth 20000 in
set_option maxHeartbeats 4000000 in
theorem apPath_any (zs : List Int) (v : Value) (w : World) (hg : apB zs = true) (h : Ints w v zs) :
    Calls Try.prog 32 #[v] w fun e w' => MadeRows w ((wayQ zs).take 201) e w' := by
  obtain ⟨i0, hi, hz0, hz1, hz2⟩ := info_parts Try.infoInts
  have hlen := apB_hlen hg
  obtain ⟨ad, c, rfl⟩ : ∃ ad c, v = .slice (some ad) 4 c := by
    obtain ⟨a, c, rfl, _, hc⟩ := h
    obtain ⟨ad, rfl, _⟩ := hc 0 (by omega)
    exact ⟨ad, c, by rw [hlen]⟩
  have H := hid h
  have HS := hid hg
  have HLEN := hid hlen
  clear h hg hlen
  go_enter Try.func32, Try.ntmps32
  go_wp2_with fail
  refine (l1OwnH_any ad 4 c zs _ HLEN.out (by omega) H.out).mono ?_
  rintro e w1 ⟨v1, rfl, ho, hL⟩
  obtain ⟨a1, c1, rfl, _⟩ := ho.shape
  have H1 := hid (H.out.later (hL.trans (Later.alloc w1 (.cells #[.slice a1 zs.length c1] 22))))
  have HO := hid (OwnRows.oneH hL.size ho)
  have HL := hid (hL.trans (Later.alloc w1 (.cells #[.slice a1 zs.length c1] 22)))
  have hs : (w1.alloc (.cells #[.slice a1 zs.length c1] 22)).heap.size = w1.heap.size + 1 := by simp
  rw [← hs] at HO
  clear ho hL hs
  go_wp2_with fail
  generalize w1.alloc (.cells #[.slice a1 zs.length c1] 22) = w2 at HO HL H1 ⊢
  refine (apDown_zs _ zs _ HS.out H1.out).mono ?_
  rintro e w3 ⟨rfl, hL3⟩
  have HI3 := hid (H1.out.later hL3)
  have HO3 := hid ((HO.out.later hL3).wide (Nat.le_refl _) hL3.size)
  have HL3 := hid (HL.out.trans hL3)
  clear hL3 HO HL H1
  go_wp2_with fail
  go_loopw [0, 3, 4] (fun t o i wr => ∃ (ys : List Int) (L : List (List Int)), apB ys = true ∧ Ints wr t ys ∧ i = .int .i64 (downIx ys) ∧ OwnRows w.heap.size wr.heap.size wr o L ∧ L ++ belowQ ys = wayQ zs ∧ L.length ≤ 201 ∧ 1 ≤ L.length ∧ Later w wr)
    (fun _ o _ _ => 202 - lenOfH o)
  case atStart => exact ⟨zs, [zs], HS.out, HI3.out, rfl, HO3.out, rfl, by simp, by simp, HL3.out⟩
  case round =>
    clear HO3 HL3 HI3
    obtain ⟨ys, L, hSy, hI, rfl, hO, hR, hle, hl1, hL⟩ := hrel
    have HI := hid hI
    have HO := hid hO
    have HR := hid hR
    have HL := hid hL
    have HSy := hid hSy
    obtain ⟨pt, ct, rfl, _⟩ := hI
    obtain ⟨o1, o2, rfl, hoc⟩ := hO.shape
    clear hO hR hL hoc hSy
    cases hl : lastQ ys
    · have HD := hid (downIx_next hl)
      have hn := nextQ_good HSy.out hl
      have HNS := hid hn.1
      have HST := hid (belowQ_step HSy.out hl)
      have HG4 := hid (gIx_lt HSy.out)
      have HNX := hid (show nextQ ys = swL ys (gIx ys) from rfl)
      obtain ⟨g, hg⟩ : ∃ g, gIx ys = g := ⟨_, rfl⟩
      rw [hg] at HD HG4 HNX
      rw [HD.out]
      have hg0 : (0 : Int) ≤ (g : Int) := by omega
      clear hl hn hg
      by_cases h201 : L.length ≤ 200
      · have hll : (L.length : Int) ≤ 200 := by omega
        go_wp2_with fail
        refine (apSwap_zs _ ys g _ HG4.out HSy.out HI.out).mono ?_
        rw [← HNX.out]
        rintro e w4 ⟨v4, rfl, ho4, hL4⟩
        obtain ⟨a4, c4, rfl, _⟩ := ho4.shape
        obtain ⟨us, hul, hus, hub, hin, hdis⟩ := (HO.out.later hL4).partsH
        have HO4 := hid ho4
        have HL4 := hid (HL.out.trans hL4)
        have HWS := hid hL4.size
        have HIN := hid hin
        have HDI := hid hdis
        have hown4 := hid (hus.alloc (.cells #[.slice a4 (nextQ ys).length c4] 22))
        have HWL := hid (show w.heap.size ≤ wr.heap.size from HL.out.size)
        have hlu : us.length ≤ 200 := by omega
        clear ho4 hL4 hus hin hdis hub
        go_wp2_with (at_builtin; refine wpList_append_lies _ (by rfl) _ _ _ (by rfl) w.heap.size 22 i0 (.slice none 0 0) 1 24 Try.underlying23 hi hz0 hz1 hz2 rfl (by omega) _ us.length us (by rfl) (by exact hown4.out) ⟨w4.heap.size, 0, none⟩ 1 1 [.slice a4 (nextQ ys).length c4] (by rfl) (by rfl) (World.news_of_block (cs := #[.slice a4 (nextQ ys).length c4]) (t := 22) (fr := (0, 0)) (heap_alloc_new w4 _)) (by simp [Value.oneCell']) (by omega) (by unfold maxLen; omega) (by omega) (by have := HL4.out.size; simp; omega) (w4.heap.size + 1) (by simp) ?_)
        intro g' cap1 w7 hown7 hgrow hat hglt
        have hA := Later.alloc w4 (.cells #[.slice a4 (nextQ ys).length c4] 22)
        have HP := hid (OwnRows.pushed hul hown4.out (fun i hi => ((HIN.out i hi).later hA)) HDI.out (((HO4.out.wide (Nat.le_refl _) (Nat.le_refl _)).later hA).wide (Nat.le_refl _) (by simp)) HWL.out (by rw [hul]; exact hown7) hgrow)
        have HL7 := hid (show Later w w7 from (HL4.out.trans hA).grown hgrow (by have := HL4.out.size; simp; omega) (fun b hb => (hown4.out.lt b hb).1))
        have HI7 := hid (OwnInts.keptH (HO4.out.later hA) hown4.out hgrow).ints
        clear hown7 hgrow hat hA
        go_wp2_with fail
        refine (apDown_zs _ (nextQ ys) _ HNS.out HI7.out).mono ?_
        rintro e w8 ⟨rfl, hL8⟩
        have HI8 := hid (HI7.out.later hL8)
        have HO8 := hid ((HP.out.later hL8).wide (Nat.le_refl _) hL8.size)
        have HL8 := hid (HL7.out.trans hL8)
        clear hL8
        go_wp2_with fail
        go_roundw
        case rel => exact ⟨nextQ ys, L ++ [nextQ ys], HNS.out, HI8.out, rfl, by simpa using HO8.out, by rw [List.append_assoc, List.singleton_append, ← HST.out]; exact HR.out, by simp; omega, by simp, HL8.out⟩
        case measure => simp [lenOfH]; omega
      · have hll : ¬ (L.length : Int) ≤ 200 := by omega
        have HE := hid (show (wayQ zs).take 201 = L by have := (below_bd HR.out).1; rw [show L.length = 201 by omega] at this; exact this)
        go_wp2_with fail
        go_ret
        exact ⟨_, rfl, by rw [HE.out]; exact HO.out, HL.out⟩
    · have HD := hid (downIx_last hl)
      have HE := hid (show (wayQ zs).take 201 = L by have := HR.out; rw [belowQ_last hl, List.append_nil] at this; rw [← this]; exact List.take_of_length_le hle)
      rw [HD.out]
      clear hl
      go_wp2_with fail
      go_ret
      exact ⟨_, rfl, by rw [HE.out]; exact HO.out, HL.out⟩
set_option maxRecDepth 20000 in
set_option maxHeartbeats 2000000 in
theorem specDownPath_any (v : Value) (zs : List Int) (w : World) (h : Ints w v zs) :
    Calls Try.prog 9 #[v] w fun e w' => RowsAns w (qwayAns zs) e w' := by
  obtain ⟨p, cap, rfl, hl, _⟩ := id h
  have H := hid h
  clear h
  cases hg : apB zs
  · have HG := hid hg
    have HA := hid (show qwayAns zs = none by unfold qwayAns; rw [hg]; simp)
    clear hg
    go_enter Try.func9, Try.ntmps9
    go_wp2_with fail
    refine (apGood_as _ zs _ _ HG.out H.out).mono ?_
    rintro e w' ⟨rfl, rfl⟩
    go_wp2_with fail
    go_ret2
    rw [HA.out]
    exact ⟨_, rfl, OwnRows.noneH _ _ _, Later.refl _⟩
  · have HG := hid hg
    by_cases h200 : (wayQ zs).length ≤ 200
    · have HA := hid (show qwayAns zs = some (wayQ zs) by unfold qwayAns; rw [if_pos ⟨hg, h200⟩])
      have HT := hid (show (wayQ zs).take 201 = wayQ zs from List.take_of_length_le (by omega))
      have hlI : ((wayQ zs).length : Int) ≤ 200 := by omega
      clear hg
      go_enter Try.func9, Try.ntmps9
      go_wp2_with fail
      refine (apGood_as _ zs _ _ HG.out H.out).mono ?_
      rintro e w' ⟨rfl, rfl⟩
      go_wp2_with fail
      refine (apPath_any zs _ _ HG.out H.out).mono ?_
      rintro e w2 ⟨v2, rfl, ho, hL⟩
      rw [HT.out] at ho
      obtain ⟨a2, c2, rfl, _⟩ := ho.shape
      have HO := hid ho
      have HL := hid hL
      clear ho hL
      go_wp2_with fail
      go_ret2
      rw [HA.out]
      exact ⟨_, rfl, HO.out, HL.out⟩
    · have HA := hid (show qwayAns zs = none by unfold qwayAns; rw [if_neg (by omega)])
      have HT := hid (show ((wayQ zs).take 201).length = 201 by rw [List.length_take]; omega)
      clear hg h200
      go_enter Try.func9, Try.ntmps9
      go_wp2_with fail
      refine (apGood_as _ zs _ _ HG.out H.out).mono ?_
      rintro e w' ⟨rfl, rfl⟩
      go_wp2_with fail
      refine (apPath_any zs _ _ HG.out H.out).mono ?_
      rintro e w2 ⟨v2, rfl, ho, hL⟩
      obtain ⟨a2, c2, rfl, _⟩ := ho.shape
      rw [HT.out]
      have HL := hid hL
      clear ho hL
      go_wp2_with fail
      go_ret2
      rw [HA.out]
      exact ⟨_, rfl, OwnRows.noneH _ _ _, HL.out⟩
end Go.Proofs.Ytpkdikfjcbmcbab
