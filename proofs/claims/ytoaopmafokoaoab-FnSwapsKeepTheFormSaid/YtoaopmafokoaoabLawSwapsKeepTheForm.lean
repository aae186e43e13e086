/- The walk of the law FnSwapsKeepTheForm. -/
import Derived.Test.YtoaopmafokoaoabSwSa
namespace Go.Proofs.Ytoaopmafokoaoab
open Go.RowKit

set_option maxRecDepth 100000 in
set_option maxHeartbeats 8000000 in
theorem lawSwapsKeepTheForm_walk (u v : Value) (xs ys : List Int) (w : World) (hx : BytesR w u xs) (hy : BytesR w v ys) :
    Calls Try.prog 4 #[u, v] w fun e w' => e = .returned (.bool true) ∧ Later w w' := by
  have HX := hid hx
  have HY := hid hy
  clear hx hy
  go_enter Try.func4, Try.ntmps4
  go_wp2_with fail
  refine (big_any u v xs ys w HX.out HY.out).mono ?_
  rintro e w0 ⟨⟨b, rfl, _⟩, rfl⟩
  cases b
  · obtain ⟨FM, hFM⟩ : ∃ M, mk 4 dfF = M := ⟨_, rfl⟩
    obtain ⟨nf, hnf⟩ : ∃ n, FM.length = n := ⟨_, rfl⟩
    have HA := hid (fun w0 => made_asS (implDescartesForm_any w0))
    have HB := hid (fun w0 => made_asS (specDescartesForm_any w0))
    rw [hFM, hnf] at HA HB
    have HFM := hid hFM
    have HNF := hid hnf
    clear hFM hnf
    go_wp2_with fail
    refine (HA.out _).mono ?_
    rintro e w2 ⟨a2, c2, rfl, hr2, hL2⟩
    have HR2 := hid hr2
    have HL2 := hid hL2
    clear hr2 hL2
    go_upto_region 4 with fail
    have c5 := box_newS w2 (.slice a2 nf c2) 44
    have HRA := hid (HR2.out.later (Later.alloc w2 (.cells #[.slice a2 nf c2] 44)))
    have HLA := hid (HL2.out.trans (Later.alloc w2 (.cells #[.slice a2 nf c2] 44)))
    generalize w2.alloc (.cells #[.slice a2 nf c2] 44) = W2 at c5 HRA HLA ⊢
    obtain ⟨B5, hB5⟩ : ∃ B, w2.heap.size = B := ⟨_, rfl⟩
    rw [hB5] at c5 ⊢
    have HC5 := hid c5
    clear hB5 HR2 HL2
    go_cut [44] (fun s wx => s = .bool false ∧ Later W2 wx)
    case first =>
      as_aux_lemma =>
      go_region_with (first
        | (go_at_call 29
           refine (HB.out _).mono ?_
           rintro e w3 ⟨a3, c3, rfl, hr3, hL3⟩
           have HR3 := hid hr3
           have HL3 := hid (show Later W2 w3 from (Later.drew W2).trans hL3)
           have c5' := HL3.out.cell HC5.out
           clear hr3 hL3)
        | (go_at_call 28
           refine (dMatrix_same (.slice a2 nf c2) (.slice a3 nf c3) FM w3 (by have h := (HRA.out.later HL3.out).1; rw [HNF.out] at h; exact h) (by have h := HR3.out.1; rw [HNF.out] at h; exact h)).mono ?_
           rintro e w4 ⟨rfl, hL4⟩
           have HL4 := hid (HL3.out.trans hL4)
           clear hL4))
      all_goals
        go_wp2_with fail
        go_meet
        case rel => exact ⟨rfl, HL4.out⟩
    case rest =>
    as_aux_lemma =>
    obtain ⟨rfl, hLc⟩ := hcut
    have HF := hid (HRA.out.later hLc)
    have HLA := hid (HLA.out.trans hLc)
    have kc5 := hLc.cell HC5.out
    clear hLc HRA HC5 HA HB c5
    go_wp2_with fail
    refine (drawSwapMatrix_any u xs _ (HX.out.later HLA.out)).mono ?_
    rintro e w6 ⟨i, rfl, hL6⟩
    replace kc5 := hL6.cell kc5
    have HF := hid (HF.out.later hL6)
    have HLA := hid (HLA.out.trans hL6)
    clear hL6
    obtain ⟨om, hom⟩ : ∃ o, smAns i = o := ⟨_, rfl⟩
    obtain ⟨M, hM⟩ : ∃ r, om.getD [] = r := ⟨_, rfl⟩
    obtain ⟨tm, htm⟩ : ∃ t, om.isSome = t := ⟨_, rfl⟩
    obtain ⟨K, hK⟩ : ∃ N, M.length = N := ⟨_, rfl⟩
    have HB1 := hid (fun w0 => mat_asG (by have h := implSwapMatrix_any i w0; rw [hom] at h; exact h) hM htm)
    have HB2 := hid (fun w0 => mat_asG (by have h := specSwapMatrix_any i w0; rw [hom] at h; exact h) hM htm)
    rw [hK] at HB1 HB2
    have HMF := hid (show tm = true → ∃ k : Nat, k < 4 ∧ i = (k : Int) ∧ M = mk 4 (smF k) by
      intro h
      rw [← htm] at h
      rcases smAns_is i with h1 | ⟨k, h1, h2, h3⟩
      · rw [← hom, h1] at h; cases h
      · exact ⟨k, h1, h2, by rw [← hM, ← hom, h3]; rfl⟩)
    have HK := hid hK
    have htt : (tm != tm) = false := by simp
    clear hom hM htm hK
    go_wp2_with fail
    refine (HB1.out _).mono ?_
    rintro e w7 ⟨a7, c7, rfl, hr7, hL7⟩
    have HR7 := hid hr7
    have HL7 := hid hL7
    clear hr7 hL7
    go_wp2_with fail
    refine (HB2.out _).mono ?_
    rintro e w8 ⟨a8, c8, rfl, hr8, hL8⟩
    have HR8 := hid hr8
    have HL8 := hid hL8
    clear hr8 hL8
    go_upto_region 9 with fail
    have k7 := (Later.alloc w8 (.cells #[.slice a8 K c8] 44)).cell (HL8.out.cell (box_newS w7 (.slice a7 K c7) 44))
    have k9 := box_newS w8 (.slice a8 K c8) 44
    have HLW := hid (((HL7.out.trans (Later.alloc w7 (.cells #[.slice a7 K c7] 44))).trans HL8.out).trans (Later.alloc w8 (.cells #[.slice a8 K c8] 44)))
    have HG := hid (((HR7.out.later (Later.alloc w7 (.cells #[.slice a7 K c7] 44))).later HL8.out).later (Later.alloc w8 (.cells #[.slice a8 K c8] 44)))
    have HG2 := hid (HR8.out.later (Later.alloc w8 (.cells #[.slice a8 K c8] 44)))
    have kc5 := HLW.out.cell kc5
    generalize w8.alloc (.cells #[.slice a8 K c8] 44) = W at k7 k9 HLW HG HG2 kc5 ⊢
    obtain ⟨B7, hB7⟩ : ∃ B, w7.heap.size = B := ⟨_, rfl⟩
    obtain ⟨B9, hB9⟩ : ∃ B, w8.heap.size = B := ⟨_, rfl⟩
    rw [hB7] at k7 ⊢
    rw [hB9] at k9 ⊢
    have HF := hid (HF.out.later HLW.out)
    have HLA := hid (HLA.out.trans HLW.out)
    have HV := hid (dMatrix_same (.slice a7 K c7) (.slice a8 K c8) M W (by have h := HG.out.1; rw [HK.out] at h; exact h) (by have h := HG2.out.1; rw [HK.out] at h; exact h))
    clear hB7 hB9 HR7 HR8 HL7 HL8 HB1 HB2 HLW HG2
    go_wp2_with fail
    refine HV.out.mono ?_
    rintro e wc ⟨rfl, hLc⟩
    have k7' := hLc.cell k7
    have k5' := hLc.cell kc5
    have HF := hid (HF.out.later hLc)
    have HG := hid (HG.out.later hLc)
    have HLA := hid (HLA.out.trans hLc)
    clear hLc HV kc5 k7 k9 htt
    have HK7 := hid k7'
    have HK5 := hid k5'
    go_upto_if 66 with fail
    go_cut [] (fun wx => Later wc wx)
    case first =>
      as_aux_lemma =>
      cases tm
      · go_wp2_with fail
        go_meet
        case rel => exact Later.refl _
      · obtain ⟨k, hk, rfl, hM⟩ := HMF.out rfl
        obtain ⟨hkp, hmu, hun⟩ := sm_mat k hk
        rw [← hM] at hkp hmu
        rw [HFM.out] at hkp
        obtain ⟨P, hP⟩ : ∃ P, unitM 4 = P := ⟨_, rfl⟩
        rw [hP] at hmu hun
        obtain ⟨np, hnp⟩ : ∃ n, P.length = n := ⟨_, rfl⟩
        have HKF := hid (bool_as9 (o := some true) (z := true) (t := true) (by have h := implKeepsForm_any (.slice a7 K c7) (.slice a2 nf c2) M FM wc (by have h2 := HG.out.1; rw [HK.out] at h2; exact h2) (by have h2 := HF.out.1; rw [HNF.out] at h2; exact h2); rw [hkp] at h; exact h) rfl rfl)
        have HMU := hid (fun w0 (h : Later wc w0) => mat_asG (o := some P) (L := P) (t := true) (by have h := implMultiplyMatrices_any (.slice a7 K c7) (.slice a7 K c7) M M w0 (by have h2 := (HG.out.later h).1; rw [HK.out] at h2; exact h2) (by have h2 := (HG.out.later h).1; rw [HK.out] at h2; exact h2); rw [hmu] at h; exact h) rfl rfl)
        have HUN := hid (fun w0 => mat_asG (o := some P) (L := P) (t := true) (by have h := implUnitMatrix_any 4 w0; rw [hun] at h; exact h) rfl rfl)
        rw [hnp] at HMU HUN
        have HNP := hid hnp
        clear hM hkp hmu hun hP hnp hk
        go_wp2_with fail
        refine HKF.out.mono ?_
        rintro e wd ⟨rfl, hLd⟩
        have k7d := hLd.cell HK7.out
        have HLd := hid hLd
        clear hLd k7' k5'
        go_wp2_with fail
        refine (HMU.out _ HLd.out).mono ?_
        rintro e we ⟨ae, ce, rfl, hre, hLe⟩
        have HRE := hid hre
        have HLe := hid (HLd.out.trans hLe)
        clear hre hLe k7d
        go_wp2_with fail
        refine (HUN.out _).mono ?_
        rintro e wf ⟨af, cf, rfl, hrf, hLf⟩
        have HRF := hid hrf
        have HLf := hid hLf
        clear hrf hLf
        go_upto_region 15 with fail
        have k13 := (Later.alloc wf (.cells #[.slice af np cf] 44)).cell (HLf.out.cell (box_newS we (.slice ae np ce) 44))
        have k15 := box_newS wf (.slice af np cf) 44
        have HL2 := hid (((Later.alloc we (.cells #[.slice ae np ce] 44)).trans HLf.out).trans (Later.alloc wf (.cells #[.slice af np cf] 44)))
        have HG3 := hid (HRE.out.later HL2.out)
        have HG4 := hid (HRF.out.later (Later.alloc wf (.cells #[.slice af np cf] 44)))
        generalize wf.alloc (.cells #[.slice af np cf] 44) = W9 at k13 k15 HL2 HG3 HG4 ⊢
        obtain ⟨B13, hB13⟩ : ∃ B, we.heap.size = B := ⟨_, rfl⟩
        obtain ⟨B15, hB15⟩ : ∃ B, wf.heap.size = B := ⟨_, rfl⟩
        rw [hB13] at k13 ⊢
        rw [hB15] at k15 ⊢
        have HV := hid (dMatrix_same (.slice ae np ce) (.slice af np cf) P W9 (by have h := HG3.out.1; rw [HNP.out] at h; exact h) (by have h := HG4.out.1; rw [HNP.out] at h; exact h))
        clear hB13 hB15 HRE HRF HLf HKF HMU HUN
        go_wp2_with fail
        refine HV.out.mono ?_
        rintro e wg ⟨rfl, hLg⟩
        have HLg := hid (HLe.out.trans (HL2.out.trans hLg))
        clear hLg HV k13 k15
        go_wp2_with fail
        go_meet
        case rel => exact HLg.out
    case rest =>
    as_aux_lemma =>
    have HF := hid (HF.out.later hcut)
    have HG := hid (HG.out.later hcut)
    have HLA := hid (HLA.out.trans hcut)
    have HK5 := hid (hcut.cell HK5.out)
    have HK7 := hid (hcut.cell HK7.out)
    clear hcut k7' k5'
    go_wp2_with fail
    refine (drawFollowSwaps_any v ys _ (HY.out.later HLA.out)).mono ?_
    rintro e w10 ⟨uq, q, tw, wo, rfl, hOq, hlq, hOw, hlw, hL10⟩
    obtain ⟨pq, cq, rfl, _⟩ := hOq.shape
    obtain ⟨pw, cw, rfl, _⟩ := hOw.shape
    have HQ := hid hOq.ints
    have HW := hid hOw.ints
    have HF := hid (HF.out.later hL10)
    have HG := hid (HG.out.later hL10)
    have HLA := hid (HLA.out.trans hL10)
    have HK5 := hid (hL10.cell HK5.out)
    have HK7 := hid (hL10.cell HK7.out)
    clear hOq hOw hL10 hlq hlw
    obtain ⟨o, ho⟩ : ∃ o, followAns q wo = o := ⟨_, rfl⟩
    obtain ⟨z, hz⟩ : ∃ r, o.getD [] = r := ⟨_, rfl⟩
    obtain ⟨t, ht⟩ : ∃ t, o.isSome = t := ⟨_, rfl⟩
    obtain ⟨nq, hnq⟩ : ∃ N, q.length = N := ⟨_, rfl⟩
    obtain ⟨nw, hnw⟩ : ∃ N, wo.length = N := ⟨_, rfl⟩
    obtain ⟨nz, hnz⟩ : ∃ N, z.length = N := ⟨_, rfl⟩
    obtain ⟨g, hg⟩ : ∃ g, apB q = g := ⟨_, rfl⟩
    have HA := hid (fun w0 (h : Later w10 w0) => ints_asG (by have h := implFollowSwaps_any _ _ q wo w0 (HQ.out.later h) (HW.out.later h); rw [ho] at h; exact h) hz ht)
    have HB := hid (fun w0 (h : Later w10 w0) => ints_asG (by have h := specFollowSwaps_any _ _ q wo w0 (HQ.out.later h) (HW.out.later h); rw [ho] at h; exact h) hz ht)
    have HC := hid (fun w0 (h : Later w10 w0) => res_asG (implIsQuad_any _ q w0 (HQ.out.later h)) hg)
    have HSC := hid (show t = true → scaleAns q = some (gcdL q) ∧ scaleAns z = some (gcdL q) by
      intro h
      rw [← ht] at h
      obtain ⟨r, hr⟩ := Option.isSome_iff_exists.1 h
      rw [hr, Option.getD_some] at hz
      subst hz
      exact follow_scale (ho.trans hr))
    rw [hnq] at HQ HA HB HC ⊢
    rw [hnw] at HW HA HB ⊢
    rw [hnz] at HA HB
    have HGQ := hid hg
    have htt : (t != t) = false := by simp
    clear ho hz ht hnq hnw hnz hg
    go_wp2_with fail
    refine (HA.out _ (Later.refl _)).mono ?_
    rintro e w11 ⟨a11, c11, rfl, hi11, _, hL11⟩
    have HI11 := hid hi11
    have HL11 := hid hL11
    clear hi11 hL11
    go_wp2_with fail
    refine (HB.out _ HL11.out).mono ?_
    rintro e w12 ⟨a12, c12, rfl, hi12, _, hL12⟩
    have HI11 := hid (HI11.out.later hL12)
    have HL12 := hid (HL11.out.trans hL12)
    have HV := hid (dSame_same (.slice a11 nz c11) (.slice a12 nz c12) z w12 HI11.out hi12)
    clear hi12 hL12 HA HB HL11
    go_wp2_with fail
    refine (drewLaterS HV.out (Later.refl _)).mono ?_
    rintro e w13 ⟨rfl, hL13⟩
    have HI11 := hid (HI11.out.later hL13)
    have HL13 := hid (HL12.out.trans hL13)
    clear hL13 HV HL12 htt
    go_wp2_with fail
    refine (HC.out _ HL13.out).mono ?_
    rintro e w14 ⟨rfl, hL14⟩
    have HI11 := hid (HI11.out.later hL14)
    have HL14 := hid (HL13.out.trans hL14)
    have HF := hid (HF.out.later HL14.out)
    have HG := hid (HG.out.later HL14.out)
    have HQ := hid (HQ.out.later HL14.out)
    have HLA := hid (HLA.out.trans HL14.out)
    have HK5 := hid (HL14.out.cell HK5.out)
    have HK7 := hid (HL14.out.cell HK7.out)
    clear hL14 HL13 HC HW
    go_upto_if 130 with fail
    go_cut [] (fun wx => Later w14 wx)
    case first =>
      as_aux_lemma =>
      cases g
      · go_wp2_with fail
        go_meet
        case rel => exact Later.refl _
      · obtain ⟨G, hG⟩ : ∃ G, gcdL q = G := ⟨_, rfl⟩
        have HFA := hid (num_as9 (o := some 0) (z := 0) (t := true) (by have h := implFormAt_any (.slice a2 nf c2) (.slice pq nq cq) FM q w14 (by have h2 := HF.out.1; rw [HNF.out] at h2; exact h2) HQ.out; rw [show prodAns FM q q = some 0 from by rw [← HFM.out]; exact formD_zero HGQ.out] at h; exact h) rfl rfl)
        have HSA := hid (fun w0 (h : Later w14 w0) => num_as9 (o := some G) (z := G) (t := true) (by have h := implScaleOf_any (.slice pq nq cq) q w0 (HQ.out.later h); rw [(scale_div HGQ.out).1, hG] at h; exact h) rfl rfl)
        have HDV := hid (fun w0 (h : Later w14 w0) => num_as9 (o := some G) (z := G) (t := true) (by have h := implDivisorOf_any (.slice pq nq cq) q w0 (HQ.out.later h); rw [(scale_div HGQ.out).2, hG] at h; exact h) rfl rfl)
        have hGG : (G != G) = false := by simp
        clear hG
        have k5 := HK5.out
        go_wp2_with fail
        refine HFA.out.mono ?_
        rintro e wa ⟨rfl, hLa⟩
        have HLa := hid hLa
        clear hLa k5 HFA
        go_wp2_with fail
        refine (HSA.out _ HLa.out).mono ?_
        rintro e wb ⟨rfl, hLb⟩
        have HLb := hid (HLa.out.trans hLb)
        clear hLb HSA HLa
        go_wp2_with fail
        refine (HDV.out _ HLb.out).mono ?_
        rintro e wd ⟨rfl, hLd⟩
        have HLd := hid (HLb.out.trans hLd)
        have k7 := HLd.out.cell HK7.out
        clear hLd HDV HLb
        as_aux_lemma =>
        cases tm
        · go_wp2_with fail
          go_meet
          case rel => exact HLd.out
        · obtain ⟨k, hk, rfl, hM⟩ := HMF.out rfl
          cases hos : swapAns q (k : Int) with
          | none =>
            obtain ⟨oa, hoa⟩ : ∃ o, applyAns M q = o := ⟨_, rfl⟩
            obtain ⟨za, hza⟩ : ∃ r, oa.getD [] = r := ⟨_, rfl⟩
            obtain ⟨ta, hta⟩ : ∃ t, oa.isSome = t := ⟨_, rfl⟩
            obtain ⟨na, hna⟩ : ∃ t, za.length = t := ⟨_, rfl⟩
            have HAP := hid (ints_asG (by have h := implApplyMatrix_any (.slice a7 K c7) (.slice pq nq cq) M q wd (by have h2 := (HG.out.later HLd.out).1; rw [HK.out] at h2; exact h2) (HQ.out.later HLd.out); rw [hoa] at h; exact h) hza hta)
            have HSW := hid (fun w0 (h : Later wd w0) => ints_asG (o := none) (z := []) (t := false) (by have h := implSwapAt_any (.slice pq nq cq) q k w0 (HQ.out.later (HLd.out.trans h)); rw [hos] at h; exact h) rfl rfl)
            rw [hna] at HAP
            clear hoa hza hta hna hos hk hM
            go_wp2_with fail
            refine HAP.out.mono ?_
            rintro e we ⟨ae, ce, rfl, _, _, hLe⟩
            have HLe := hid hLe
            clear hLe k7
            go_wp2_with fail
            refine (HSW.out _ HLe.out).mono ?_
            rintro e wf ⟨af, cf, rfl, _, _, hLf⟩
            have HLf := hid (HLd.out.trans (HLe.out.trans hLf))
            clear hLf
            go_wp2_with fail
            go_meet
            case rel => exact HLf.out
          | some S =>
            have hap : applyAns M q = some S := by rw [hM]; exact sm_law hk hos
            obtain ⟨ns, hns⟩ : ∃ t, S.length = t := ⟨_, rfl⟩
            have HAP := hid (ints_asG (o := some S) (z := S) (t := true) (by have h := implApplyMatrix_any (.slice a7 K c7) (.slice pq nq cq) M q wd (by have h2 := (HG.out.later HLd.out).1; rw [HK.out] at h2; exact h2) (HQ.out.later HLd.out); rw [hap] at h; exact h) rfl rfl)
            have HSW := hid (fun w0 (h : Later wd w0) => ints_asG (o := some S) (z := S) (t := true) (by have h := implSwapAt_any (.slice pq nq cq) q k w0 (HQ.out.later (HLd.out.trans h)); rw [hos] at h; exact h) rfl rfl)
            rw [hns] at HAP HSW
            clear hap hns hos hk hM
            go_wp2_with fail
            refine HAP.out.mono ?_
            rintro e we ⟨ae, ce, rfl, hie, _, hLe⟩
            have HIE := hid hie
            have HLe := hid hLe
            clear hLe hie k7
            go_wp2_with fail
            refine (HSW.out _ HLe.out).mono ?_
            rintro e wf ⟨af, cf, rfl, hif, _, hLf⟩
            have HV := hid (dSame_same (.slice ae ns ce) (.slice af ns cf) S wf (HIE.out.later hLf) hif)
            have HLf := hid (HLd.out.trans (HLe.out.trans hLf))
            clear hLf hif
            go_wp2_with fail
            refine (drewLaterS HV.out HLf.out).mono ?_
            rintro e wg ⟨rfl, hLg⟩
            have HLg := hid hLg
            clear hLg
            go_wp2_with fail
            go_meet
            case rel => exact HLg.out
    case rest =>
    as_aux_lemma =>
    have HQ := hid (HQ.out.later hcut)
    have HI11 := hid (HI11.out.later hcut)
    have HLA := hid (HLA.out.trans hcut)
    clear hcut HF HG HK5 HK7
    cases t
    · go_wp2_with fail
      go_ret
      exact ⟨rfl, HLA.out⟩
    · obtain ⟨hs1, hs2⟩ := HSC.out rfl
      obtain ⟨G, hG⟩ : ∃ G, gcdL q = G := ⟨_, rfl⟩
      rw [hG] at hs1 hs2
      have HSA := hid (num_as9 (o := some G) (z := G) (t := true) (by have h := implScaleOf_any (.slice pq nq cq) q _ HQ.out; rw [hs1] at h; exact h) rfl rfl)
      have HSB := hid (fun w0 v (h : Ints w0 v z) => num_as9 (o := some G) (z := G) (t := true) (by have h := implScaleOf_any v z w0 h; rw [hs2] at h; exact h) rfl rfl)
      clear hs1 hs2 hG
      go_wp2_with fail
      refine HSA.out.mono ?_
      rintro e wa ⟨rfl, hLa⟩
      have HI11 := hid (HI11.out.later hLa)
      have HLa := hid (HLA.out.trans hLa)
      clear hLa HSA
      go_wp2_with fail
      refine (HSB.out _ _ HI11.out).mono ?_
      rintro e wb ⟨rfl, hLb⟩
      have HLb := hid (HLa.out.trans hLb)
      clear hLb
      go_wp2_with fail
      go_ret
      exact ⟨by simp, HLb.out⟩
  · go_wp2_with fail
    go_ret
    exact ⟨rfl, Later.refl _⟩
end Go.Proofs.Ytoaopmafokoaoab
