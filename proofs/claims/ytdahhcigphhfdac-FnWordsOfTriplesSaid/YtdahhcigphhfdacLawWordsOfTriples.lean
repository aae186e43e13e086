/- The walk of the law FnWordsOfTriples. -/
import Derived.Test.YtdahhcigphhfdacAsG
import Derived.Test.YtdahhcigphhfdacCuRab
import Derived.Test.YtdahhcigphhfdacCuRc
import Derived.Test.YtdahhcigphhfdacRiLc
import Derived.Test.YtdahhcigphhfdacRiEU
import Derived.Test.YtdahhcigphhfdacRiF
import Derived.Test.YtdahhcigphhfdacRiB
import Derived.Test.YtdahhcigphhfdacRiY
namespace Go.Proofs.Ytdahhcigphhfdac
open Go.RowKit

set_option maxRecDepth 100000 in
set_option maxHeartbeats 8000000 in
theorem lawWordsOfTriples_walk (u v : Value) (xs ys : List Int) (w : World) (hx : BytesR w u xs) (hy : BytesR w v ys) :
    Calls Try.prog 6 #[u, v] w fun e w' => e = .returned (.bool true) ∧ Later w w' := by
  have HX := hid hx
  have HY := hid hy
  clear hx hy
  go_enter Try.func6, Try.ntmps6
  go_wp2_with fail
  refine (big_any u v xs ys w HX.out HY.out).mono ?_
  rintro e w0 ⟨⟨b, rfl, _⟩, rfl⟩
  cases b
  · go_wp2_with fail
    refine (drawRightByBerg_any u xs w HX.out).mono ?_
    rintro e w1 ⟨u1, zs, rfl, hO, hlen, hL1⟩
    obtain ⟨p1, c1, rfl, hcap⟩ := hO.shape
    have HI := hid hO.ints
    have HL1 := hid hL1
    clear hO hL1 hcap hlen
    obtain ⟨ob, hob⟩ : ∃ o, byWordAns bergC zs = o := ⟨_, rfl⟩
    obtain ⟨zb, hzb⟩ : ∃ r, ob.getD [] = r := ⟨_, rfl⟩
    obtain ⟨tb, htb⟩ : ∃ t, ob.isSome = t := ⟨_, rfl⟩
    obtain ⟨op, hop⟩ : ∃ o, byWordAns priceC zs = o := ⟨_, rfl⟩
    obtain ⟨zp, hzp⟩ : ∃ r, op.getD [] = r := ⟨_, rfl⟩
    obtain ⟨tp, htp⟩ : ∃ t, op.isSome = t := ⟨_, rfl⟩
    obtain ⟨N, hN⟩ : ∃ N, zs.length = N := ⟨_, rfl⟩
    obtain ⟨Mb, hMb⟩ : ∃ N, zb.length = N := ⟨_, rfl⟩
    obtain ⟨Mp, hMp⟩ : ∃ N, zp.length = N := ⟨_, rfl⟩
    have HA := hid (fun w0 (h : Later w1 w0) => ints_asG (by have h := implRightByBerg_any _ zs w0 (HI.out.later h); rw [hob] at h; exact h) hzb htb)
    have HB := hid (fun w0 (h : Later w1 w0) => ints_asG (by have h := specRightByBerg_any _ zs w0 (HI.out.later h); rw [hob] at h; exact h) hzb htb)
    have HC := hid (fun w0 (h : Later w1 w0) => ints_asG (by have h := implRightByPrice_any _ zs w0 (HI.out.later h); rw [hop] at h; exact h) hzp htp)
    have HD := hid (fun w0 (h : Later w1 w0) => ints_asG (by have h := specRightByPrice_any _ zs w0 (HI.out.later h); rw [hop] at h; exact h) hzp htp)
    rw [hN] at HI HA HB HC HD ⊢
    rw [hMb] at HA HB
    rw [hMp] at HC HD
    have HOB := hid hob
    have HZB := hid hzb
    have HTB := hid htb
    have HOP := hid hop
    have HZP := hid hzp
    have HTP := hid htp
    have HN := hid hN
    have HMB := hid hMb
    have HMP := hid hMp
    have h1 : (tb != tb) = false := by simp
    have h2 : (tp != tp) = false := by simp
    clear hob hzb htb hop hzp htp hN hMb hMp
    go_wp2_with fail
    refine (HA.out _ (Later.refl _)).mono ?_
    rintro e w2 ⟨a2, c2, rfl, hi2, _, hL2⟩
    have HI2 := hid hi2
    have HL2 := hid hL2
    clear hi2 hL2
    go_wp2_with fail
    refine (HB.out _ HL2.out).mono ?_
    rintro e w3 ⟨a3, c3, rfl, hi3, _, hL3⟩
    have HI23 := hid (HI2.out.later hL3)
    have HI3 := hid hi3
    have HL3 := hid (HL2.out.trans hL3)
    clear hi3 hL3 HI2 HL2
    go_wp2_with fail
    refine (HC.out _ HL3.out).mono ?_
    rintro e w4 ⟨a4, c4, rfl, hi4, _, hL4⟩
    have HI24 := hid (HI23.out.later hL4)
    have HI34 := hid (HI3.out.later hL4)
    have HI4 := hid hi4
    have HL4 := hid (HL3.out.trans hL4)
    clear hi4 hL4 HI23 HI3 HL3
    go_wp2_with fail
    refine (HD.out _ HL4.out).mono ?_
    rintro e w5 ⟨a5, c5, rfl, hi5, _, hL5⟩
    have HI25 := hid (HI24.out.later hL5)
    have HI45 := hid (HI4.out.later hL5)
    have HI5 := hid hi5
    have HV1 := hid (vSame_same (.slice a2 Mb c2) (.slice a3 Mb c3) zb w5 HI25.out (HI34.out.later hL5))
    have HL5 := hid (HL4.out.trans hL5)
    clear hi5 hL5 HI24 HI34 HI4 HL4 HA HB HC HD
    go_wp2_with fail
    refine HV1.out.mono ?_
    rintro e w6 ⟨rfl, n6, rfl⟩
    have HL6 := hid (Later.drewN w5 n6)
    generalize w5.drewN n6 = w6 at HL6 ⊢
    have HV2 := hid (vSame_same (.slice a4 Mp c4) (.slice a5 Mp c5) zp w6 (HI45.out.later HL6.out) (HI5.out.later HL6.out))
    go_wp2_with fail
    refine HV2.out.mono ?_
    rintro e w7 ⟨rfl, n7, rfl⟩
    have HL7 := hid (HL6.out.trans (Later.drewN w6 n7))
    generalize w6.drewN n7 = w7 at HL7 ⊢
    have HI27 := hid (HI25.out.later HL7.out)
    have HI47 := hid (HI45.out.later HL7.out)
    have HL17 := hid (HL5.out.trans HL7.out)
    clear HV1 HV2 HI5 HI25 HI45 HL5 HL6 HL7 h1 h2
    go_upto_if 90 with fail
    go_cut [] (fun wx => Later w7 wx)
    case first =>
      cases tb
      · go_wp2_with fail
        go_meet
        case rel => exact Later.refl _
      · as_aux_lemma =>
        obtain ⟨q, hq⟩ : ∃ q, ob = some q := Option.isSome_iff_exists.1 HTB.out
        subst hq
        have hz := HZB.out
        simp only [Option.getD_some] at hz
        subst hz
        have hwd := word_of_by treeBerg HOB.out
        have HW := hid (ints_asG (o := some zs) (z := zs) (t := true) (by have h := implBergWord_any _ q w7 HI27.out; rw [hwd] at h; exact h) rfl rfl)
        rw [HN.out] at HW
        clear hwd
        go_wp2_with fail
        refine HW.out.mono ?_
        rintro e w8 ⟨a8, c8, rfl, hi8, _, hL8⟩
        have HL8 := hid hL8
        have HV := hid (vSame_same (.slice a8 N c8) (.slice p1 N c1) zs w8 hi8 (HI.out.later (HL17.out.trans hL8)))
        clear hi8 hL8
        go_wp2_with fail
        refine HV.out.mono ?_
        rintro e w9 ⟨rfl, n9, rfl⟩
        go_wp2_with fail
        go_meet
        case rel => exact HL8.out.trans (Later.drewN _ _)
    case rest =>
    have HI4c := hid (HI47.out.later hcut)
    have HL1c := hid (HL17.out.trans hcut)
    clear hcut HI27 HI47 HL17 HOB HZB HTB HMB
    go_upto_if 104 with fail
    go_cut [] (fun wx => Later wc wx)
    case first =>
      cases tp
      · go_wp2_with fail
        go_meet
        case rel => exact Later.refl _
      · as_aux_lemma =>
        obtain ⟨q, hq⟩ : ∃ q, op = some q := Option.isSome_iff_exists.1 HTP.out
        subst hq
        have hz := HZP.out
        simp only [Option.getD_some] at hz
        subst hz
        have hwd := word_of_by treePrice HOP.out
        have HW := hid (ints_asG (o := some zs) (z := zs) (t := true) (by have h := implPriceWord_any _ q wc HI4c.out; rw [hwd] at h; exact h) rfl rfl)
        rw [HN.out] at HW
        clear hwd
        go_wp2_with fail
        refine HW.out.mono ?_
        rintro e w8 ⟨a8, c8, rfl, hi8, _, hL8⟩
        have HL8 := hid hL8
        have HV := hid (vSame_same (.slice a8 N c8) (.slice p1 N c1) zs w8 hi8 (HI.out.later (HL1c.out.trans hL8)))
        clear hi8 hL8
        go_wp2_with fail
        refine HV.out.mono ?_
        rintro e w9 ⟨rfl, n9, rfl⟩
        go_wp2_with fail
        go_meet
        case rel => exact HL8.out.trans (Later.drewN _ _)
    case rest =>
    as_aux_lemma =>
    have HLZ := hid (HL1.out.trans (HL1c.out.trans hcut))
    clear hcut HI4c HL1c HOP HZP HTP HMP HN HI HL1
    go_wp2_with fail
    refine (drawPriceWord_any v ys _ (HY.out.later HLZ.out)).mono ?_
    rintro e wd ⟨u2, us, rfl, hO, hlen2, hLd⟩
    obtain ⟨p2, cc2, rfl, hcap⟩ := hO.shape
    have HU := hid hO.ints
    have HLd := hid (HLZ.out.trans hLd)
    clear hO hcap hLd HLZ hlen2
    obtain ⟨oa, hoa⟩ : ∃ o, wordAns priceU us = o := ⟨_, rfl⟩
    obtain ⟨za, hza⟩ : ∃ r, oa.getD [] = r := ⟨_, rfl⟩
    obtain ⟨og, hog⟩ : ∃ o, wordAns bergU us = o := ⟨_, rfl⟩
    obtain ⟨zg, hzg⟩ : ∃ r, og.getD [] = r := ⟨_, rfl⟩
    obtain ⟨tr, htr⟩ : ∃ t, (rightP us).isSome = t := ⟨_, rfl⟩
    have hta : oa.isSome = tr := by rw [← hoa, wordAns_is, htr]
    have htg : og.isSome = tr := by rw [← hog, wordAns_is, htr]
    obtain ⟨N2, hN2⟩ : ∃ N, us.length = N := ⟨_, rfl⟩
    obtain ⟨Ma, hMa⟩ : ∃ N, za.length = N := ⟨_, rfl⟩
    obtain ⟨Mg, hMg⟩ : ∃ N, zg.length = N := ⟨_, rfl⟩
    have HA := hid (fun w0 (h : Later wd w0) => ints_asG (by have h := implPriceWord_any _ us w0 (HU.out.later h); rw [hoa] at h; exact h) hza hta)
    have HB := hid (fun w0 (h : Later wd w0) => ints_asG (by have h := specPriceWord_any _ us w0 (HU.out.later h); rw [hoa] at h; exact h) hza hta)
    have HC := hid (fun w0 (h : Later wd w0) => ints_asG (by have h := implBergWord_any _ us w0 (HU.out.later h); rw [hog] at h; exact h) hzg htg)
    have HD := hid (fun w0 (h : Later wd w0) => ints_asG (by have h := specBergWord_any _ us w0 (HU.out.later h); rw [hog] at h; exact h) hzg htg)
    have HRI := hid (fun w0 (h : Later wd w0) => implIsRight_as _ us tr htr w0 (HU.out.later h))
    rw [hN2] at HU HA HB HC HD HRI ⊢
    rw [hMa] at HA HB
    rw [hMg] at HC HD
    have HOA := hid hoa
    have HZA := hid hza
    have HTA := hid hta
    have HOG := hid hog
    have HZG := hid hzg
    have HTG := hid htg
    have HN2 := hid hN2
    have HMA := hid hMa
    have HMG := hid hMg
    have h1 : (tr != tr) = false := by simp
    clear hoa hza hta hog hzg htg hN2 hMa hMg htr
    go_wp2_with fail
    refine (HA.out _ (Later.refl _)).mono ?_
    rintro e w2 ⟨a2, c2, rfl, hi2, _, hL2⟩
    have HI2 := hid hi2
    have HL2 := hid hL2
    clear hi2 hL2
    go_wp2_with fail
    refine (HB.out _ HL2.out).mono ?_
    rintro e w3 ⟨a3, c3, rfl, hi3, _, hL3⟩
    have HI23 := hid (HI2.out.later hL3)
    have HI3 := hid hi3
    have HL3 := hid (HL2.out.trans hL3)
    clear hi3 hL3 HI2 HL2
    go_wp2_with fail
    refine (HC.out _ HL3.out).mono ?_
    rintro e w4 ⟨a4, c4, rfl, hi4, _, hL4⟩
    have HI24 := hid (HI23.out.later hL4)
    have HI34 := hid (HI3.out.later hL4)
    have HI4 := hid hi4
    have HL4 := hid (HL3.out.trans hL4)
    clear hi4 hL4 HI23 HI3 HL3
    go_wp2_with fail
    refine (HD.out _ HL4.out).mono ?_
    rintro e w5 ⟨a5, c5, rfl, hi5, _, hL5⟩
    have HI25 := hid (HI24.out.later hL5)
    have HI45 := hid (HI4.out.later hL5)
    have HI5 := hid hi5
    have HV1 := hid (vSame_same (.slice a2 Ma c2) (.slice a3 Ma c3) za w5 HI25.out (HI34.out.later hL5))
    have HL5 := hid (HL4.out.trans hL5)
    clear hi5 hL5 HI24 HI34 HI4 HL4 HA HB HC HD
    go_wp2_with fail
    refine HV1.out.mono ?_
    rintro e w6 ⟨rfl, n6, rfl⟩
    have HL6 := hid (Later.drewN w5 n6)
    generalize w5.drewN n6 = w6 at HL6 ⊢
    have HV2 := hid (vSame_same (.slice a4 Mg c4) (.slice a5 Mg c5) zg w6 (HI45.out.later HL6.out) (HI5.out.later HL6.out))
    go_wp2_with fail
    refine HV2.out.mono ?_
    rintro e w7 ⟨rfl, n7, rfl⟩
    have HL7 := hid (HL6.out.trans (Later.drewN w6 n7))
    generalize w6.drewN n7 = w7 at HL7 ⊢
    go_wp2_with fail
    refine (HRI.out _ (HL5.out.trans HL7.out)).mono ?_
    rintro e w8 ⟨rfl, hL8⟩
    have HL8 := hid (HL7.out.trans hL8)
    have HI28 := hid (HI25.out.later HL8.out)
    have HI48 := hid (HI45.out.later HL8.out)
    have HLd8 := hid (HL5.out.trans HL8.out)
    clear hL8 HV1 HV2 HI5 HI25 HI45 HL5 HL6 HL7 HL8 HRI
    go_upto_if 171 with fail
    clear h1
    go_cut [] (fun wx => Later w8 wx)
    case first =>
      cases tr
      · go_wp2_with fail
        go_meet
        case rel => exact Later.refl _
      · as_aux_lemma =>
        obtain ⟨qa, hqa⟩ : ∃ q, oa = some q := Option.isSome_iff_exists.1 HTA.out
        obtain ⟨qg, hqg⟩ : ∃ q, og = some q := Option.isSome_iff_exists.1 HTG.out
        subst hqa hqg
        have hz := HZA.out
        have hz2 := HZG.out
        simp only [Option.getD_some] at hz hz2
        subst hz hz2
        obtain ⟨ya, hya⟩ : ∃ o, byWordAns priceC qa = o := ⟨_, rfl⟩
        obtain ⟨yg, hyg⟩ : ∃ o, byWordAns bergC qg = o := ⟨_, rfl⟩
        have h3 : qa.length ≤ 40 → ya = some us := fun h => by rw [← hya]; exact by_of_word treePrice HOA.out h
        have h4 : qg.length ≤ 40 → yg = some us := fun h => by rw [← hyg]; exact by_of_word treeBerg HOG.out h
        rw [HMA.out] at h3
        rw [HMG.out] at h4
        have HH3 := hid h3
        have HH4 := hid h4
        obtain ⟨sa, hsa⟩ : ∃ r, ya.getD [] = r := ⟨_, rfl⟩
        obtain ⟨sg, hsg⟩ : ∃ r, yg.getD [] = r := ⟨_, rfl⟩
        obtain ⟨ta, hta⟩ : ∃ t, ya.isSome = t := ⟨_, rfl⟩
        obtain ⟨tg, htg⟩ : ∃ t, yg.isSome = t := ⟨_, rfl⟩
        have HA := hid (fun w0 (h : Later w8 w0) => ints_asG (by have h := implRightByPrice_any _ qa w0 (HI28.out.later h); rw [hya] at h; exact h) hsa hta)
        have HB := hid (fun w0 (h : Later w8 w0) => ints_asG (by have h := implRightByBerg_any _ qg w0 (HI48.out.later h); rw [hyg] at h; exact h) hsg htg)
        have HSA := hid hsa
        have HSG := hid hsg
        have HTA' := hid hta
        have HTG' := hid htg
        clear hya hyg h3 h4 hsa hsg hta htg
        go_wp2_with fail
        refine (HA.out _ (Later.refl _)).mono ?_
        rintro e wa ⟨aa, ca, rfl, hia, _, hLa⟩
        have HIA := hid hia
        have HLa := hid hLa
        clear hia hLa
        go_wp2_with fail
        refine (HB.out _ HLa.out).mono ?_
        rintro e wb ⟨ab, cb, rfl, hib, _, hLb⟩
        have HIA2 := hid (HIA.out.later hLb)
        have HIB := hid hib
        have HLb := hid (HLa.out.trans hLb)
        clear hib hLb HIA HLa HA HB
        have HUb := hid (HU.out.later (HLd8.out.trans HLb.out))
        by_cases k1 : Ma ≤ 40
        · have e1 := HH3.out k1
          subst e1
          have e2 := HTA'.out
          have e3 := HSA.out
          simp only [Option.isSome_some, Option.getD_some] at e2 e3
          subst e2 e3
          have hk1 : (Ma : Int) ≤ 40 := by omega
          have HV1 := hid (vSame_same (.slice aa us.length ca) (.slice p2 us.length cc2) us wb HIA2.out (by rw [HN2.out]; exact HUb.out))
          rw [HN2.out] at HV1 HIA2 ⊢
          by_cases k2 : Mg ≤ 40
          · have e1 := HH4.out k2
            subst e1
            have e2 := HTG'.out
            have e3 := HSG.out
            simp only [Option.isSome_some, Option.getD_some] at e2 e3
            subst e2 e3
            have hk2 : (Mg : Int) ≤ 40 := by omega
            rw [HN2.out] at HIB ⊢
            clear k1 k2
            go_wp2_with fail
            refine HV1.out.mono ?_
            rintro e wg ⟨rfl, ng, rfl⟩
            have HV2 := hid (vSame_same (.slice ab N2 cb) (.slice p2 N2 cc2) us (wb.drewN ng) (HIB.out.drewN ng) (HUb.out.drewN ng))
            go_wp2_with fail
            refine HV2.out.mono ?_
            rintro e wh ⟨rfl, nh, rfl⟩
            go_wp2_with fail
            go_meet
            case rel => exact HLb.out.trans (Later.drewN _ _)
          · have hk2 : ¬ (Mg : Int) ≤ 40 := by omega
            clear k1 k2
            go_wp2_with fail
            refine HV1.out.mono ?_
            rintro e wg ⟨rfl, ng, rfl⟩
            go_wp2_with fail
            go_meet
            case rel => exact HLb.out.trans (Later.drewN _ _)
        · have hk1 : ¬ (Ma : Int) ≤ 40 := by omega
          by_cases k2 : Mg ≤ 40
          · have e1 := HH4.out k2
            subst e1
            have e2 := HTG'.out
            have e3 := HSG.out
            simp only [Option.isSome_some, Option.getD_some] at e2 e3
            subst e2 e3
            have hk2 : (Mg : Int) ≤ 40 := by omega
            have HV2 := hid (vSame_same (.slice ab us.length cb) (.slice p2 us.length cc2) us wb HIB.out (by rw [HN2.out]; exact HUb.out))
            rw [HN2.out] at HV2 HIB ⊢
            clear k1 k2
            go_wp2_with fail
            refine HV2.out.mono ?_
            rintro e wh ⟨rfl, nh, rfl⟩
            go_wp2_with fail
            go_meet
            case rel => exact HLb.out.trans (Later.drewN _ _)
          · have hk2 : ¬ (Mg : Int) ≤ 40 := by omega
            clear k1 k2
            go_wp2_with fail
            go_meet
            case rel => exact HLb.out
    case rest =>
    as_aux_lemma =>
    have HLQ := hid (HLd.out.trans (HLd8.out.trans hcut))
    clear hcut HLd HLd8 HI28 HI48 HOA HZA HTA HOG HZG HTG HN2 HMA HMG HU
    go_wp2_with fail
    refine (drawRankOfWord_any v ys _ (HY.out.later HLQ.out)).mono ?_
    rintro e we ⟨u3, ks, rfl, hO, hlen3, hLe⟩
    obtain ⟨p3, cc3, rfl, hcap⟩ := hO.shape
    have HK := hid hO.ints
    have HLe := hid (HLQ.out.trans hLe)
    clear hO hcap hLe HLQ hlen3
    obtain ⟨oa, hoa⟩ : ∃ o, rankAns ks = o := ⟨_, rfl⟩
    obtain ⟨za, hza⟩ : ∃ r, oa.getD 0 = r := ⟨_, rfl⟩
    obtain ⟨ta, hta⟩ : ∃ t, oa.isSome = t := ⟨_, rfl⟩
    obtain ⟨N3, hN3⟩ : ∃ N, ks.length = N := ⟨_, rfl⟩
    have HA := hid (fun w0 (h : Later we w0) => num_as9 (by have h := implRankOfWord_any _ ks w0 (HK.out.later h); rw [hoa] at h; exact h) hza hta)
    have HB := hid (fun w0 (h : Later we w0) => num_as9 (by have h := specRankOfWord_any _ ks w0 (HK.out.later h); rw [hoa] at h; exact h) hza hta)
    rw [hN3] at HK HA HB ⊢
    have HOA := hid hoa
    have HZA := hid hza
    have HTA := hid hta
    have HN3 := hid hN3
    have h1 : (ta != ta) = false := by simp
    have h2 : (za != za) = false := by simp
    clear hoa hza hta hN3
    go_wp2_with fail
    refine (HA.out _ (Later.refl _)).mono ?_
    rintro e w2 ⟨rfl, hL2⟩
    have HL2 := hid hL2
    clear hL2
    go_wp2_with fail
    refine (HB.out _ HL2.out).mono ?_
    rintro e w3 ⟨rfl, hL3⟩
    have HL3 := hid (HL2.out.trans hL3)
    clear hL3 HL2 HA HB
    go_wp2_with fail
    refine (drawWordOfRank_any v ys _ (HY.out.later (HLe.out.trans HL3.out))).mono ?_
    rintro e w4 ⟨r, rfl, hr, hL4⟩
    have HL4 := hid (HL3.out.trans hL4)
    have HR := hid hr
    clear hL4 HL3 hr
    obtain ⟨ob, hob⟩ : ∃ o, wrAns r = o := ⟨_, rfl⟩
    obtain ⟨zb, hzb⟩ : ∃ z, ob.getD [] = z := ⟨_, rfl⟩
    obtain ⟨tb, htb⟩ : ∃ t, ob.isSome = t := ⟨_, rfl⟩
    obtain ⟨Mb, hMb⟩ : ∃ N, zb.length = N := ⟨_, rfl⟩
    have HA := hid (fun w0 => ints_asG (by have h := implWordOfRank_any r (by have := HR.out; unfold I64; omega) w0; rw [hob] at h; exact h) hzb htb)
    have HB := hid (fun w0 => ints_asG (by have h := specWordOfRank_any r w0; rw [hob] at h; exact h) hzb htb)
    rw [hMb] at HA HB
    have HOB := hid hob
    have HZB := hid hzb
    have HTB := hid htb
    have HMB := hid hMb
    have h3 : (tb != tb) = false := by simp
    clear hob hzb htb hMb
    go_wp2_with fail
    refine (HA.out _).mono ?_
    rintro e w5 ⟨a5, c5, rfl, hi5, _, hL5⟩
    have HI5 := hid hi5
    have HL5 := hid (HL4.out.trans hL5)
    clear hi5 hL5 HL4
    go_wp2_with fail
    refine (HB.out _).mono ?_
    rintro e w6 ⟨a6, c6, rfl, hi6, _, hL6⟩
    have HI56 := hid (HI5.out.later hL6)
    have HV := hid (vSame_same (.slice a5 Mb c5) (.slice a6 Mb c6) zb w6 HI56.out hi6)
    have HL6 := hid (HL5.out.trans hL6)
    clear hi6 hL6 HL5 HI5 HA HB
    go_upto_if 253 with (go_at_call 11; refine HV.out.mono ?_; rintro e w7 ⟨rfl, n7, rfl⟩)
    have HI7 := hid (HI56.out.drewN n7)
    have HL7 := hid (HL6.out.trans (Later.drewN w6 n7))
    generalize w6.drewN n7 = w7 at HI7 HL7 ⊢
    clear HV HI56 HL6 h1 h2 h3
    go_cut [] (fun wx => Later w7 wx)
    case first =>
      cases ta
      · go_wp2_with fail
        go_meet
        case rel => exact Later.refl _
      · as_aux_lemma =>
        obtain ⟨q, hq⟩ : ∃ q, oa = some q := Option.isSome_iff_exists.1 HTA.out
        subst hq
        have hz := HZA.out
        simp only [Option.getD_some] at hz
        subst hz
        have hbk := rank_back HOA.out
        have hq64 : I64 q := by
          have h := hbk
          unfold wrAns at h
          split at h
          · unfold I64; omega
          · cases h
        have HW := hid (ints_asG (o := some ks) (z := ks) (t := true) (by have h := implWordOfRank_any q hq64 w7; rw [hbk] at h; exact h) rfl rfl)
        rw [HN3.out] at HW
        clear hbk hq64
        go_wp2_with fail
        refine HW.out.mono ?_
        rintro e w8 ⟨a8, c8, rfl, hi8, _, hL8⟩
        have HL8 := hid hL8
        have HV := hid (vSame_same (.slice a8 N3 c8) (.slice p3 N3 cc3) ks w8 hi8 (HK.out.later (HL7.out.trans hL8)))
        clear hi8 hL8
        go_wp2_with fail
        refine HV.out.mono ?_
        rintro e w9 ⟨rfl, n9, rfl⟩
        go_wp2_with fail
        go_meet
        case rel => exact HL8.out.trans (Later.drewN _ _)
    case rest =>
    have HI8 := hid (HI7.out.later hcut)
    have HLW := hid (HLe.out.trans (HL7.out.trans hcut))
    clear hcut HI7 HL7 HLe HOA HZA HTA HN3 HK
    cases tb
    · go_wp2_with fail
      go_ret
      exact ⟨rfl, HLW.out⟩
    · obtain ⟨q, hq⟩ : ∃ q, ob = some q := Option.isSome_iff_exists.1 HTB.out
      subst hq
      have hz := HZB.out
      simp only [Option.getD_some] at hz
      subst hz
      have hbk := rank_of HOB.out
      have HW := hid (num_as9 (o := some r) (z := r) (t := true) (by have h := implRankOfWord_any _ q wc HI8.out; rw [hbk] at h; exact h) rfl rfl)
      have hrr : (r == r) = true := by simp
      clear hbk
      go_wp2_with fail
      refine HW.out.mono ?_
      rintro e w8 ⟨rfl, hL8⟩
      have HL8 := hid (HLW.out.trans hL8)
      clear hL8
      go_wp2_with fail
      go_ret
      exact ⟨by simp, HL8.out⟩
  · go_wp2_with fail
    go_ret
    exact ⟨rfl, Later.refl _⟩
end Go.Proofs.Ytdahhcigphhfdac
