/- The factors of a Christoffel word, and its centre, in both. -/
import Derived.Test.YtmmapfdmdliifaaGreatDoorWdG
namespace Go.Proofs.YtmmapfdmdliifaaGreatDoor
open Go.RowKit

theorem clone_any (s : ByteArray) (w : World) (h : s.size ≤ 1048576) : Calls Tryz.prog 24 #[.string s] w fun e w' => e = .returned (.string s) ∧ Later w w' := by
  have HC := hid (fun w => (AnyPu.stringslite_Clone laysLaysPu25 s w (by omega) : Calls Tryz.prog 36 #[.string s] w fun e w' => e = .returned (.string s) ∧ Below w.heap.size w w'))
  go_enter Tryz.func24, Tryz.ntmps24
  go_wp2_with fail
  refine (HC.out _).mono ?_
  rintro e w1 ⟨rfl, hL⟩
  go_wp2_with fail
  go_ret
  exact ⟨rfl, hL⟩
theorem facAns_none {l : List UInt8} (h : isTwoW l = false) : facAns l = none := by unfold facAns; rw [if_neg (by simp [h])]
theorem facAns_some {l : List UInt8} (h : isTwoW l = true) : facAns l = some (l.take (splitW l), l.drop (splitW l)) := by unfold facAns; rw [if_pos h]
theorem two_split {l : List UInt8} (h : isTwoW l = true) : 1 ≤ splitW l ∧ splitW l < l.length := by
  obtain ⟨hl, h2, hg⟩ := (isTwoW_iff _).1 h
  exact splitW_lt ((lettersW_iff _).1 hl).2.1 (by omega) hg

set_option maxRecDepth 20000 in
set_option maxHeartbeats 2000000 in
theorem specFactorsOf_any (s : ByteArray) (w : World) (_hs : s.size ≤ 1048576) : Calls Tryz.prog 9 #[.string s] w fun e w' => PairAns w (facAns s.data.toList) e w' := by
  have HC := hid (fun b w hb => chTwo_as s b w hb)
  cases hb : isTwoW s.data.toList
  · have HA := hid (facAns_none hb)
    have HB := hid hb
    rw [HA.out]
    clear hb
    go_enter Tryz.func9, Tryz.ntmps9
    go_wp2_with fail
    refine (HC.out false _ HB.out).mono ?_
    rintro e w1 ⟨rfl, hL⟩
    go_wp2_with fail
    go_ret3
    exact ⟨rfl, hL⟩
  · have HA := hid (facAns_some hb)
    have HS := hid (fun w => chSplit_any s w hb)
    have hlt := two_split hb
    have HB := hid hb
    rw [← size_list] at hlt
    rw [HA.out]
    obtain ⟨m, hm⟩ : ∃ m, splitW s.data.toList = m := ⟨_, rfl⟩
    rw [hm] at HS hlt ⊢
    have HP := hid (pre_eq s m)
    have HQ := hid (suf_eq s m)
    have hmI : (m : Int) ≤ (s.size : Int) := by omega
    have hm0 : m ≤ s.size := by omega
    clear hb hm hlt
    go_enter Tryz.func9, Tryz.ntmps9
    go_wp2_with fail
    refine (HC.out true _ HB.out).mono ?_
    rintro e w1 ⟨rfl, hL⟩
    have HL1 := hid hL
    clear hL
    go_wp2_with fail
    refine (HS.out _).mono ?_
    rintro e w2 ⟨rfl, hL⟩
    have HL2 := hid (HL1.out.trans hL)
    clear hL
    go_wp2_with fail
    go_quiet (fail)
    go_wp2_with fail
    go_ret3
    refine ⟨?_, HL2.out.trans (Later.drewN _ _)⟩
    rw [HP.out, HQ.out]
    rfl

set_option maxRecDepth 20000 in
set_option maxHeartbeats 2000000 in
theorem implFactorsOf_any (s : ByteArray) (w : World) (hs : s.size ≤ 1048576) : Calls Tryz.prog 14 #[.string s] w fun e w' => PairAns w (facAns s.data.toList) e w' := by
  have HG := hid (fun b w h => implisChristoffel_as s b w hs h)
  cases hb : implGoodW s.data.toList
  · have HT := hid (show isTwoW s.data.toList = false by
      cases e : isTwoW s.data.toList
      · rfl
      · obtain ⟨p1, _, p3⟩ := (isTwoW_iff _).1 e
        unfold implGoodW at hb
        rw [p1, p3] at hb
        cases hb)
    have HA := hid (facAns_none HT.out)
    have HB := hid hb
    rw [HA.out]
    clear hb
    go_enter Tryz.func14, Tryz.ntmps14
    go_wp2_with fail
    refine (HG.out false _ HB.out).mono ?_
    rintro e w1 ⟨rfl, hL⟩
    go_wp2_with fail
    go_ret3
    exact ⟨rfl, hL⟩
  · have hlg : lettersW s.data.toList = true ∧ goodW s.data.toList = true := by simpa [implGoodW] using hb
    obtain ⟨hl, hg⟩ := hlg
    have hl40 := ((lettersW_iff _).1 hl).2.1
    have HB := hid hb
    have HX := hid (fun (h2 : 2 ≤ s.data.toList.length) hn => cut_ex hl40 h2 hg hn)
    have HTW := hid (fun (h2 : 1 < s.data.toList.length) => (isTwoW_iff _).2 ⟨hl, h2, hg⟩)
    have HAN := hid (fun (h2 : ¬ 1 < s.data.toList.length) => facAns_none (l := s.data.toList) (by
      cases e : isTwoW s.data.toList
      · rfl
      · exact (h2 ((isTwoW_iff _).1 e).2.1).elim))
    have HAS := hid (fun k h3 h4 h5 h6 (h2 : 1 < s.data.toList.length) => show facAns s.data.toList = some (s.data.toList.take k, s.data.toList.drop k) by
      rw [facAns_some (HTW.out h2), splitW_at s.data.toList k h3 h4 h5 h6])
    have HGP := hid (fun k b w (h1 : 1 ≤ k) (hk : k < s.size) (hb : goodW (s.data.toList.take k) = b) => implisChristoffel_as (s.extract 0 k) b w (by rw [pre_size s k (by omega)]; omega) (by
      rw [pre_list]; unfold implGoodW; rw [lettersW_take hl k h1 (by rw [← size_list]; omega), hb]; rfl))
    have HGS := hid (fun k b w (hk : k < s.size) (hb : goodW (s.data.toList.drop k) = b) => implisChristoffel_as (s.extract k s.size) b w (by rw [suf_size s k]; omega) (by
      rw [suf_list]; unfold implGoodW; rw [lettersW_drop hl k (by rw [← size_list]; omega), hb]; rfl))
    have HCP := hid (fun k w (hk : k < s.size) => clone_any (s.extract 0 k) w (by rw [pre_size s k (by omega)]; omega))
    have HCS := hid (fun k w => clone_any (s.extract k s.size) w (by rw [suf_size s k]; omega))
    rw [← size_list] at HX HAN HAS
    have HH := hid (show 1 ≤ s.size by have := ((lettersW_iff _).1 hl).1; rw [size_list]; exact this)
    have hs40 : s.size ≤ 40 := by rw [size_list]; exact hl40
    obtain ⟨o, ho⟩ : ∃ o, facAns s.data.toList = o := ⟨_, rfl⟩
    rw [ho] at HAN HAS ⊢
    clear hb hl hg hl40 ho
    go_enter Tryz.func14, Tryz.ntmps14
    go_wp2_with fail
    refine (HG.out true _ HB.out).mono ?_
    rintro e w0 ⟨rfl, hL0⟩
    have HL0 := hid hL0
    clear hL0
    go_wp2_with fail
    go_loopw [5] (fun i wr => ∃ k : Nat, 1 ≤ k ∧ k ≤ s.size ∧ i = .int .i64 k ∧ (∀ j, 1 ≤ j → j < k → cutAt s.data.toList j = false) ∧ Later w0 wr) (fun i _ => s.size - (intOf i).toNat)
    case atStart => exact ⟨1, Nat.le_refl _, HH.out, rfl, fun j h3 h4 => by omega, Later.refl _⟩
    case round =>
      obtain ⟨k, hk1, hk, rfl, hn, hL⟩ := hrel
      have HN := hid hn
      have HLr := hid (HL0.out.trans hL)
      have HLw := hid hL
      clear hn hL
      by_cases hlt : k < s.size
      · have hltI : (k : Int) < (s.size : Int) := by omega
        have hleI : (k : Int) ≤ (s.size : Int) := by omega
        cases hb1 : goodW (s.data.toList.take k)
        · have HB1 := hid hb1
          have HNC := hid (show cutAt s.data.toList k = false by unfold cutAt; rw [hb1]; rfl)
          clear hb1
          go_wp2_with fail
          go_quiet (fail)
          have HLd := hid (HLw.out.trans (Later.drewN wr nq))
          generalize wr.drewN nq = wd at HLd ⊢
          go_wp2_with fail
          refine (HGP.out k false _ hk1 hlt HB1.out).mono ?_
          rintro e w1 ⟨rfl, hL⟩
          have HL1 := hid (HLd.out.trans hL)
          clear hL
          go_wp2_with fail
          go_roundw
          case rel => exact ⟨k + 1, by omega, hlt, by go_num, fun j h3 h4 => by
              by_cases e : j = k
              · subst e; exact HNC.out
              · exact HN.out j h3 (by omega), HL1.out⟩
          case measure => simp [intOf]; omega
        · have HB1 := hid hb1
          cases hb2 : goodW (s.data.toList.drop k)
          · have HB2 := hid hb2
            have HNC := hid (show cutAt s.data.toList k = false by unfold cutAt; rw [hb1, hb2]; rfl)
            clear hb1 hb2
            go_wp2_with fail
            go_quiet (fail)
            have HLd := hid (HLw.out.trans (Later.drewN wr nq))
            generalize wr.drewN nq = wd at HLd ⊢
            go_wp2_with fail
            refine (HGP.out k true _ hk1 hlt HB1.out).mono ?_
            rintro e w1 ⟨rfl, hL⟩
            have HL1 := hid (HLd.out.trans hL)
            clear hL
            go_wp2_with fail
            refine (HGS.out k false _ hlt HB2.out).mono ?_
            rintro e w2 ⟨rfl, hL⟩
            have HL2 := hid (HL1.out.trans hL)
            clear hL
            go_wp2_with fail
            go_roundw
            case rel => exact ⟨k + 1, by omega, hlt, by go_num, fun j h3 h4 => by
                by_cases e : j = k
                · subst e; exact HNC.out
                · exact HN.out j h3 (by omega), HL2.out⟩
            case measure => simp [intOf]; omega
          · have HB2 := hid hb2
            have HE := hid (HAS.out k hk1 hlt HN.out (by unfold cutAt; rw [hb1, hb2]; rfl) (by omega))
            have HP := hid (pre_eq s k)
            have HQ := hid (suf_eq s k)
            clear hb1 hb2
            go_wp2_with fail
            go_quiet (fail)
            have HLd := hid (HLw.out.trans (Later.drewN wr nq))
            generalize wr.drewN nq = wd at HLd ⊢
            go_wp2_with fail
            refine (HGP.out k true _ hk1 hlt HB1.out).mono ?_
            rintro e w1 ⟨rfl, hL⟩
            have HL1 := hid (HLd.out.trans hL)
            clear hL
            go_wp2_with fail
            refine (HGS.out k true _ hlt HB2.out).mono ?_
            rintro e w2 ⟨rfl, hL⟩
            have HL2 := hid (HL1.out.trans hL)
            clear hL
            go_wp2_with fail
            refine (HCP.out k _ hlt).mono ?_
            rintro e w3 ⟨rfl, hL⟩
            have HL3 := hid (HL2.out.trans hL)
            clear hL
            go_wp2_with fail
            refine (HCS.out k _).mono ?_
            rintro e w4 ⟨rfl, hL⟩
            have HL4 := hid (HL0.out.trans (HL3.out.trans hL))
            clear hL
            go_wp2_with fail
            go_ret3
            refine ⟨?_, HL4.out⟩
            rw [HE.out, HP.out, HQ.out]
            rfl
      · have hks : k = s.size := by omega
        by_cases h2 : 1 < s.size
        · exact (HX.out (by omega) (fun j h3 h4 => HN.out j h3 (by omega))).elim
        · have HO := hid (HAN.out h2)
          clear h2 hks
          go_wp2_with fail
          go_ret3
          refine ⟨?_, HLr.out⟩
          rw [HO.out]
          rfl
end Go.Proofs.YtmmapfdmdliifaaGreatDoor
