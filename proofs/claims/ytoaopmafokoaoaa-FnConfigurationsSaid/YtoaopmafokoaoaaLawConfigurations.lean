/- The walk of the law FnConfigurations. -/
import Derived.Test.YtoaopmafokoaoaaCuCg
import Derived.Test.YtoaopmafokoaoaaDCi
import Derived.Test.YtoaopmafokoaoaaAsD
import Derived.Test.YtoaopmafokoaoaaCfLa
import Derived.Test.YtoaopmafokoaoaaCfG
import Derived.Test.YtoaopmafokoaoaaQdH
namespace Go.Proofs.Ytoaopmafokoaoaa
open Go.RowKit

theorem cis_asC {w0 : World} {fn : FuncId} {args : Array Value} {o : Option (List Ci4)} {z : List Ci4} {t : Bool} (h : Calls Try.prog fn args w0 fun e w' => CisAns w0 o e w') (hL : o.getD [] = z) (ht : o.isSome = t) :
    Calls Try.prog fn args w0 fun e w' => ∃ a c, e = .returned (.tuple #[.slice a z.length c, .bool t]) ∧ Cis w' (.slice a z.length c) z ∧ Later w0 w' :=
  h.mono fun e w' ⟨v, he, ho, hl⟩ => by
    rw [hL] at ho
    obtain ⟨a, c, rfl, _⟩ := ho.shape
    exact ⟨a, c, by rw [he, ht], ho.cis, hl⟩
theorem drewLaterC {fn : FuncId} {args : Array Value} {w base : World} {r : Ending} (h : Calls Try.prog fn args w fun e w' => e = r ∧ ∃ n, w' = w.drewN n) (hb : Later base w) : Calls Try.prog fn args w fun e w' => e = r ∧ Later base w' :=
  h.mono fun e w' ⟨he, n, hw⟩ => ⟨he, by rw [hw]; exact hb.trans (Later.drewN _ _)⟩
theorem conf_is (L : List Ci4) : (confAns L).getD false = confB L ∧ (curvAns L).isSome = confB L := by
  unfold confAns curvAns
  constructor
  · cases h4 : fourB L
    · rw [confB_no h4]; simp
    · simp
  · cases confB L <;> simp
theorem conf_yes {L : List Ci4} (h : confB L = true) : confAns L = some true ∧ curvAns L = some (curvL L) := by
  unfold confAns curvAns
  rw [if_pos (confB_four h), if_pos h, h]
  exact ⟨rfl, rfl⟩
set_option maxRecDepth 100000 in
set_option maxHeartbeats 8000000 in
theorem lawConfigurations_walk (u v : Value) (xs ys : List Int) (w : World) (hx : BytesR w u xs) (hy : BytesR w v ys) :
    Calls Try.prog 5 #[u, v] w fun e w' => e = .returned (.bool true) ∧ Later w w' := by
  have HX := hid hx
  have HY := hid hy
  clear hx hy
  go_enter Try.func5, Try.ntmps5
  go_wp2_with fail
  refine (big_any u v xs ys w HX.out HY.out).mono ?_
  rintro e w0 ⟨⟨b, rfl, _⟩, rfl⟩
  cases b
  · go_wp2_with fail
    refine (drawSwapCircle_any u xs w HX.out).mono ?_
    rintro e w1 ⟨u1, L, i, rfl, hO, hlen, hL1⟩
    obtain ⟨p1, c1, rfl, hcap⟩ := hO.shape
    have HI := hid hO.cis
    have HL1 := hid hL1
    clear hO hL1 hcap
    obtain ⟨o1, ho1⟩ : ∃ o, swapAnsC L i = o := ⟨_, rfl⟩
    have hlaw := swapC_law L i
    rw [ho1] at hlaw
    obtain ⟨t, ht⟩ : ∃ t, o1.isSome = t := ⟨_, rfl⟩
    obtain ⟨O, hOe⟩ : ∃ r, o1.getD [] = r := ⟨_, rfl⟩
    obtain ⟨b2, hb2⟩ : ∃ t, confB L = t := ⟨_, rfl⟩
    obtain ⟨hc1, hc2⟩ := conf_is L
    rw [hb2] at hc1 hc2
    obtain ⟨t2, ht2⟩ : ∃ t, (confAns L).isSome = t := ⟨_, rfl⟩
    obtain ⟨V, hV⟩ : ∃ r, (curvAns L).getD [] = r := ⟨_, rfl⟩
    obtain ⟨N, hN⟩ : ∃ N, L.length = N := ⟨_, rfl⟩
    obtain ⟨n, hn⟩ : ∃ N, O.length = N := ⟨_, rfl⟩
    obtain ⟨k, hk⟩ : ∃ N, V.length = N := ⟨_, rfl⟩
    have HA := hid (fun w0 (h : Later w1 w0) => cis_asC (by have h := swapP_any _ L i w0 (HI.out.later h); rw [ho1] at h; exact h) hOe ht)
    have HB := hid (fun w0 (h : Later w1 w0) => cis_asC (by have h := swapS_any _ L i w0 (HI.out.later h); rw [ho1] at h; exact h) hOe ht)
    have HC := hid (fun w0 (h : Later w1 w0) => bool_as9 (isConfigP_any _ L w0 (HI.out.later h)) hc1 ht2)
    have HD := hid (fun w0 (h : Later w1 w0) => bool_as9 (isConfigS_any _ L w0 (HI.out.later h)) hc1 ht2)
    have HE := hid (fun w0 (h : Later w1 w0) => ints_asG (curvP_any _ L w0 (HI.out.later h)) hV hc2)
    have HF := hid (fun w0 (h : Later w1 w0) => ints_asG (curvS_any _ L w0 (HI.out.later h)) hV hc2)
    rw [hN] at HI HA HB HC HD HE HF ⊢
    rw [hn] at HA HB
    rw [hk] at HE HF
    have HFACT := hid (show t = true → b2 = true ∧ V = curvL L ∧ confB O = true ∧ swapAnsC O i = some L ∧ ∀ q, swapAns (curvL L) i = some q → q = curvL O by
      intro h
      rw [← ht] at h
      rcases hlaw with h1 | ⟨O', h1, h2, h3, h4, h5⟩
      · rw [h1] at h; cases h
      · rw [h1] at hOe
        simp only [Option.getD_some] at hOe
        subst hOe
        exact ⟨by rw [← hb2, h2], by rw [← hV, (conf_yes h2).2]; rfl, h3, h4, h5⟩)
    have HN := hid hN
    have HNn := hid hn
    have HKk := hid hk
    have q1 : (t != t) = false := by simp
    have q2 : (b2 != b2) = false := by simp
    have q3 : (t2 != t2) = false := by simp
    clear ho1 hlaw ht hOe hb2 hc1 hc2 ht2 hV hN hn hk
    go_wp2_with fail
    refine (HA.out _ (Later.refl _)).mono ?_
    rintro e w2 ⟨a2, c2, rfl, hi2, hL2⟩
    have HO2 := hid hi2
    have HL2 := hid hL2
    clear hi2 hL2
    go_wp2_with fail
    refine (HB.out _ HL2.out).mono ?_
    rintro e w3 ⟨a3, c3, rfl, hi3, hL3⟩
    have HO2 := hid (HO2.out.later hL3)
    have HO3 := hid hi3
    have HL3 := hid (HL2.out.trans hL3)
    clear hi3 hL3 HL2
    go_wp2_with fail
    refine (HC.out _ HL3.out).mono ?_
    rintro e w4 ⟨rfl, hL4⟩
    have HO2 := hid (HO2.out.later hL4)
    have HO3 := hid (HO3.out.later hL4)
    have HL4 := hid (HL3.out.trans hL4)
    clear hL4 HL3
    go_wp2_with fail
    refine (HD.out _ HL4.out).mono ?_
    rintro e w5 ⟨rfl, hL5⟩
    have HO2 := hid (HO2.out.later hL5)
    have HL5 := hid (HL4.out.trans hL5)
    have HV := hid (dCircles_same (.slice a2 n c2) (.slice a3 n c3) O w5 (by have h := HO2.out; exact h) (HO3.out.later hL5))
    clear hL5 HL4 HA HB HC HD HO3
    go_upto_region 8 with fail
    go_cut [103] (fun s wx => s = .bool false ∧ Later w5 wx)
    case first =>
      as_aux_lemma =>
      cases t
      · go_wp2_with fail
        refine (drewLaterC HV.out (Later.refl _)).mono ?_
        rintro e w6 ⟨rfl, hL6⟩
        have HL6 := hid hL6
        clear hL6
        go_wp2_with fail
        go_meet
        case rel => exact ⟨rfl, HL6.out⟩
      · have hb := (HFACT.out rfl).1
        subst hb
        go_wp2_with fail
        refine (drewLaterC HV.out (Later.refl _)).mono ?_
        rintro e w6 ⟨rfl, hL6⟩
        have HL6 := hid hL6
        clear hL6
        go_wp2_with fail
        go_meet
        case rel => exact ⟨rfl, HL6.out⟩
    case rest =>
    as_aux_lemma =>
    obtain ⟨rfl, hLc⟩ := hcut
    have HO2 := hid (HO2.out.later hLc)
    have HL5 := hid (HL5.out.trans hLc)
    clear hLc HV q1 q3
    go_wp2_with fail
    refine (HE.out _ HL5.out).mono ?_
    rintro e w6 ⟨a6, c6, rfl, hi6, _, hL6⟩
    have HO2 := hid (HO2.out.later hL6)
    have HI6 := hid hi6
    have HL6 := hid (HL5.out.trans hL6)
    clear hi6 hL6 HL5
    go_wp2_with fail
    refine (HF.out _ HL6.out).mono ?_
    rintro e w7 ⟨a7, c7, rfl, hi7, _, hL7⟩
    have HO2 := hid (HO2.out.later hL7)
    have HI6 := hid (HI6.out.later hL7)
    have HL7 := hid (HL6.out.trans hL7)
    have HV := hid (dSame_same (.slice a6 k c6) (.slice a7 k c7) V w7 HI6.out hi7)
    clear hi7 hL7 HL6 HE HF
    go_wp2_with fail
    refine (drewLaterC HV.out (Later.refl _)).mono ?_
    rintro e W ⟨rfl, hLc⟩
    have HO2 := hid (HO2.out.later hLc)
    have HI6 := hid (HI6.out.later hLc)
    have HLw := hid (HL7.out.trans hLc)
    have HIW := hid (HI.out.later HLw.out)
    have HLA := hid (HL1.out.trans HLw.out)
    clear hLc HV HL7 q2 HI HL1 HLw
    go_upto_if 128 with fail
    go_cut [] (fun wx => Later W wx)
    case first =>
      as_aux_lemma =>
      cases t
      · go_wp2_with fail
        go_meet
        case rel => exact Later.refl _
      · obtain ⟨hb, hVe, hco, hback, hcv⟩ := HFACT.out rfl
        obtain ⟨y1, y2⟩ := conf_yes hco
        obtain ⟨C, hC⟩ : ∃ C, curvL O = C := ⟨_, rfl⟩
        obtain ⟨lc, hlc⟩ : ∃ l, C.length = l := ⟨_, rfl⟩
        obtain ⟨o4, ho4⟩ : ∃ o, swapAns V i = o := ⟨_, rfl⟩
        obtain ⟨t4, ht4⟩ : ∃ t, o4.isSome = t := ⟨_, rfl⟩
        obtain ⟨q, hq⟩ : ∃ r, o4.getD [] = r := ⟨_, rfl⟩
        obtain ⟨lq, hlq⟩ : ∃ l, q.length = l := ⟨_, rfl⟩
        have HQE := hid (show t4 = true → q = C by
          intro h
          rw [← ht4] at h
          obtain ⟨r, hr⟩ := Option.isSome_iff_exists.1 h
          rw [hr, Option.getD_some] at hq
          rw [← hq, ← hC]
          rw [hVe] at ho4
          exact hcv r (ho4.trans hr))
        rw [hC] at y2
        have HG := hid (bool_as9 (o := some true) (z := true) (t := true) (by have h := isConfigP_any (.slice a2 n c2) O W HO2.out; rw [y1] at h; exact h) rfl rfl)
        have HH := hid (fun w0 (h : Later W w0) => cis_asC (o := some L) (z := L) (t := true) (by have h := swapP_any (.slice a2 n c2) O i w0 (HO2.out.later h); rw [hback] at h; exact h) rfl rfl)
        have HJ := hid (fun w0 (h : Later W w0) => ints_asG (o := some C) (z := C) (t := true) (by have h := curvP_any (.slice a2 n c2) O w0 (HO2.out.later h); rw [y2] at h; exact h) rfl rfl)
        have HK := hid (fun w0 (h : Later W w0) => ints_asG (by have h := implSwapAt_any (.slice a6 k c6) V i w0 (HI6.out.later h); rw [ho4] at h; exact h) hq ht4)
        rw [HN.out] at HH
        rw [hlc] at HJ
        rw [hlq] at HK
        have HLC := hid hlc
        have HLQ := hid hlq
        subst hb
        clear hVe hco hback hcv y1 y2 hC hlc ho4 ht4 hq hlq
        go_wp2_with fail
        refine HG.out.mono ?_
        rintro e w8 ⟨rfl, hL8⟩
        have HL8 := hid hL8
        clear hL8 HG
        go_wp2_with fail
        refine (HH.out _ HL8.out).mono ?_
        rintro e w9 ⟨a9, c9, rfl, hi9, hL9⟩
        have HO9 := hid hi9
        have HL9 := hid (HL8.out.trans hL9)
        clear hi9 hL9 HL8 HH
        go_wp2_with fail
        refine (HJ.out _ HL9.out).mono ?_
        rintro e w10 ⟨a10, c10, rfl, hi10, _, hL10⟩
        have HO9 := hid (HO9.out.later hL10)
        have HI10 := hid hi10
        have HL10 := hid (HL9.out.trans hL10)
        clear hi10 hL10 HL9 HJ
        go_wp2_with fail
        refine (HK.out _ HL10.out).mono ?_
        rintro e w11 ⟨a11, c11, rfl, hi11, _, hL11⟩
        have HO9 := hid (HO9.out.later hL11)
        have HI10 := hid (HI10.out.later hL11)
        have HI11 := hid hi11
        have HL11 := hid (HL10.out.trans hL11)
        have HV := hid (dCircles_same (.slice a9 N c9) (.slice p1 N c1) L w11 HO9.out (HIW.out.later HL11.out))
        clear hi11 hL11 HL10 HK
        as_aux_lemma =>
        cases t4
        · go_wp2_with fail
          refine (drewLaterC HV.out HL11.out).mono ?_
          rintro e w12 ⟨rfl, hL12⟩
          have HL12 := hid hL12
          clear hL12
          go_wp2_with fail
          go_meet
          case rel => exact HL12.out
        · have hqC := HQE.out rfl
          subst hqC
          have hll : lq = lc := by rw [← HLQ.out, HLC.out]
          subst hll
          go_wp2_with fail
          refine (drewLaterC HV.out (Later.refl _)).mono ?_
          rintro e w12 ⟨rfl, hL12⟩
          have HV2 := hid (dSame_same (.slice a11 lq c11) (.slice a10 lq c10) _ w12 (HI11.out.later hL12) (HI10.out.later hL12))
          have HL12 := hid (HL11.out.trans hL12)
          clear hL12
          go_wp2_with fail
          refine (drewLaterC HV2.out HL12.out).mono ?_
          rintro e w13 ⟨rfl, hL13⟩
          have HL13 := hid hL13
          clear hL13
          go_wp2_with fail
          go_meet
          case rel => exact HL13.out
    case rest =>
    as_aux_lemma =>
    have HLZ := hid (HLA.out.trans hcut)
    clear hcut HO2 HI6 HIW HLA HFACT HN HNn HKk
    go_wp2_with fail
    refine (drawFollowCircles_any v ys _ (HY.out.later HLZ.out)).mono ?_
    rintro e w20 ⟨u2, A, tw, ws, rfl, hOA, hlA, hOw, hlw, hL20⟩
    obtain ⟨pa, ca, rfl, _⟩ := hOA.shape
    obtain ⟨pw, cw, rfl, _⟩ := hOw.shape
    have HIA := hid hOA.cis
    have HIW := hid hOw.ints
    have HL20 := hid (HLZ.out.trans hL20)
    clear hOA hOw hL20 HLZ hlA hlw
    obtain ⟨o5, ho5⟩ : ∃ o, followCAns A ws = o := ⟨_, rfl⟩
    obtain ⟨t5, ht5⟩ : ∃ t, o5.isSome = t := ⟨_, rfl⟩
    obtain ⟨D, hD⟩ : ∃ r, o5.getD [] = r := ⟨_, rfl⟩
    obtain ⟨NA, hNA⟩ : ∃ N, A.length = N := ⟨_, rfl⟩
    obtain ⟨NW, hNW⟩ : ∃ N, ws.length = N := ⟨_, rfl⟩
    obtain ⟨ND, hND⟩ : ∃ N, D.length = N := ⟨_, rfl⟩
    have HA := hid (fun w0 (h : Later w20 w0) => cis_asC (by have h := followP_any _ A _ ws w0 (HIA.out.later h) (HIW.out.later h); rw [ho5] at h; exact h) hD ht5)
    have HB := hid (fun w0 (h : Later w20 w0) => cis_asC (by have h := followS_any _ A _ ws w0 (HIA.out.later h) (HIW.out.later h); rw [ho5] at h; exact h) hD ht5)
    rw [hNA] at HIA HA HB ⊢
    rw [hNW] at HIW HA HB ⊢
    rw [hND] at HA HB
    have HFACT := hid (show t5 = true → confB A = true ∧ confB D = true ∧ ∀ q, followAns (curvL A) ws = some q → q = curvL D by
      intro h
      rw [← ht5] at h
      obtain ⟨r, hr⟩ := Option.isSome_iff_exists.1 h
      rw [hr, Option.getD_some] at hD
      subst hD
      exact followC_ans (ho5.trans hr))
    have q1 : (t5 != t5) = false := by simp
    clear ho5 ht5 hD hNA hNW hND
    go_wp2_with fail
    refine (HA.out _ (Later.refl _)).mono ?_
    rintro e w21 ⟨a21, c21, rfl, hi21, hL21⟩
    have HO := hid hi21
    have HL21 := hid hL21
    clear hi21 hL21
    go_wp2_with fail
    refine (HB.out _ HL21.out).mono ?_
    rintro e w22 ⟨a22, c22, rfl, hi22, hL22⟩
    have HO := hid (HO.out.later hL22)
    have HL22 := hid (HL21.out.trans hL22)
    have HV := hid (dCircles_same (.slice a21 ND c21) (.slice a22 ND c22) D w22 HO.out hi22)
    clear hi22 hL22 HL21 HA HB
    go_wp2_with fail
    refine (drewLaterC HV.out (Later.refl _)).mono ?_
    rintro e W2 ⟨rfl, hLc⟩
    have HO := hid (HO.out.later hLc)
    have HLc := hid (HL22.out.trans hLc)
    have HIA := hid (HIA.out.later HLc.out)
    have HIW := hid (HIW.out.later HLc.out)
    have HLA := hid (HL20.out.trans HLc.out)
    clear hLc HV HL22 HL20 HLc q1
    go_upto_if 206 with fail
    go_cut [] (fun wx => Later W2 wx)
    case first =>
      as_aux_lemma =>
      cases t5
      · go_wp2_with fail
        go_meet
        case rel => exact Later.refl _
      · obtain ⟨hcA, hcD, hcv⟩ := HFACT.out rfl
        obtain ⟨y1, y2⟩ := conf_yes hcD
        obtain ⟨_, z2⟩ := conf_yes hcA
        obtain ⟨C, hC⟩ : ∃ C, curvL D = C := ⟨_, rfl⟩
        obtain ⟨lc, hlc⟩ : ∃ l, C.length = l := ⟨_, rfl⟩
        obtain ⟨E, hE⟩ : ∃ C, curvL A = C := ⟨_, rfl⟩
        obtain ⟨le, hle⟩ : ∃ l, E.length = l := ⟨_, rfl⟩
        rw [hC] at y2
        rw [hE] at z2
        obtain ⟨o4, ho4⟩ : ∃ o, followAns E ws = o := ⟨_, rfl⟩
        obtain ⟨t4, ht4⟩ : ∃ t, o4.isSome = t := ⟨_, rfl⟩
        obtain ⟨q, hq⟩ : ∃ r, o4.getD [] = r := ⟨_, rfl⟩
        obtain ⟨lq, hlq⟩ : ∃ l, q.length = l := ⟨_, rfl⟩
        have HQE := hid (show t4 = true → q = C by
          intro h
          rw [← ht4] at h
          obtain ⟨r, hr⟩ := Option.isSome_iff_exists.1 h
          rw [hr, Option.getD_some] at hq
          rw [← hq, ← hC]
          rw [← hE] at ho4
          exact hcv r (ho4.trans hr))
        have HG := hid (bool_as9 (o := some true) (z := true) (t := true) (by have h := isConfigP_any (.slice a21 ND c21) D W2 HO.out; rw [y1] at h; exact h) rfl rfl)
        have HH := hid (fun w0 (h : Later W2 w0) => ints_asG (o := some E) (z := E) (t := true) (by have h := curvP_any (.slice pa NA ca) A w0 (HIA.out.later h); rw [z2] at h; exact h) rfl rfl)
        have HJ := hid (fun w0 (h : Later W2 w0) => ints_asG (o := some C) (z := C) (t := true) (by have h := curvP_any (.slice a21 ND c21) D w0 (HO.out.later h); rw [y2] at h; exact h) rfl rfl)
        have HK := hid (fun w0 x (h : Later W2 w0) (hx : Ints w0 x E) => ints_asG (by have h := implFollowSwaps_any x (.slice pw NW cw) E ws w0 hx (HIW.out.later h); rw [ho4] at h; exact h) hq ht4)
        rw [hle] at HH
        rw [hlc] at HJ
        rw [hlq] at HK
        have HLC := hid hlc
        have HLQ := hid hlq
        clear hcA hcD hcv y1 y2 z2 hC hlc hE hle ho4 ht4 hq hlq
        go_wp2_with fail
        refine HG.out.mono ?_
        rintro e w8 ⟨rfl, hL8⟩
        have HL8 := hid hL8
        clear hL8 HG
        go_wp2_with fail
        refine (HH.out _ HL8.out).mono ?_
        rintro e w9 ⟨a9, c9, rfl, hi9, _, hL9⟩
        have HI9 := hid hi9
        have HL9 := hid (HL8.out.trans hL9)
        clear hi9 hL9 HL8 HH
        go_wp2_with fail
        refine (HJ.out _ HL9.out).mono ?_
        rintro e w10 ⟨a10, c10, rfl, hi10, _, hL10⟩
        have HI9 := hid (HI9.out.later hL10)
        have HI10 := hid hi10
        have HL10 := hid (HL9.out.trans hL10)
        clear hi10 hL10 HL9 HJ
        go_wp2_with fail
        refine (HK.out _ _ HL10.out HI9.out).mono ?_
        rintro e w11 ⟨a11, c11, rfl, hi11, _, hL11⟩
        have HI10 := hid (HI10.out.later hL11)
        have HI11 := hid hi11
        have HL11 := hid (HL10.out.trans hL11)
        clear hi11 hL11 HL10 HK HI9
        as_aux_lemma =>
        cases t4
        · go_wp2_with fail
          go_meet
          case rel => exact HL11.out
        · have hqC := HQE.out rfl
          subst hqC
          have hll : lq = lc := by rw [← HLQ.out, HLC.out]
          subst hll
          have HV2 := hid (dSame_same (.slice a11 lq c11) (.slice a10 lq c10) _ w11 HI11.out HI10.out)
          go_wp2_with fail
          refine (drewLaterC HV2.out HL11.out).mono ?_
          rintro e w13 ⟨rfl, hL13⟩
          have HL13 := hid hL13
          clear hL13
          go_wp2_with fail
          go_meet
          case rel => exact HL13.out
    case rest =>
    as_aux_lemma =>
    have HLZ := hid (HLA.out.trans hcut)
    clear hcut HO HIA HIW HLA HFACT
    go_wp2_with fail
    refine (drawStartConfig_any v ys _ (HY.out.later HLZ.out)).mono ?_
    rintro e w30 ⟨kd, rfl, hL30⟩
    have HL30 := hid (HLZ.out.trans hL30)
    clear hL30 HLZ
    obtain ⟨o7, ho7⟩ : ∃ o, startAns kd = o := ⟨_, rfl⟩
    obtain ⟨t7, ht7⟩ : ∃ t, o7.isSome = t := ⟨_, rfl⟩
    obtain ⟨S, hS⟩ : ∃ r, o7.getD [] = r := ⟨_, rfl⟩
    obtain ⟨NS, hNS⟩ : ∃ N, S.length = N := ⟨_, rfl⟩
    have HA := hid (fun w0 => cis_asC (by have h := startP_any kd w0; rw [ho7] at h; exact h) hS ht7)
    have HB := hid (fun w0 => cis_asC (by have h := startS_any kd w0; rw [ho7] at h; exact h) hS ht7)
    rw [hNS] at HA HB
    have HFACT := hid (show t7 = true → confB S = true by
      intro h
      rw [← ht7] at h
      obtain ⟨r, hr⟩ := Option.isSome_iff_exists.1 h
      rw [hr, Option.getD_some] at hS
      subst hS
      exact start_conf (ho7.trans hr))
    have q1 : (t7 != t7) = false := by simp
    clear ho7 ht7 hS hNS
    go_wp2_with fail
    refine (HA.out _).mono ?_
    rintro e w31 ⟨a31, c31, rfl, hi31, hL31⟩
    have HO := hid hi31
    have HL31 := hid hL31
    clear hi31 hL31
    go_wp2_with fail
    refine (HB.out _).mono ?_
    rintro e w32 ⟨a32, c32, rfl, hi32, hL32⟩
    have HO := hid (HO.out.later hL32)
    have HL32 := hid (HL30.out.trans (HL31.out.trans hL32))
    have HV := hid (dCircles_same (.slice a31 NS c31) (.slice a32 NS c32) S w32 HO.out hi32)
    clear hi32 hL32 HL31 HL30 HA HB
    go_wp2_with fail
    refine (drewLaterC HV.out (Later.refl _)).mono ?_
    rintro e w33 ⟨rfl, hL33⟩
    have HO := hid (HO.out.later hL33)
    have HL33 := hid (HL32.out.trans hL33)
    clear hL33 HV HL32 q1
    cases t7
    · go_wp2_with fail
      go_ret
      exact ⟨rfl, HL33.out⟩
    · have hcS := HFACT.out rfl
      have HG := hid (bool_as9 (o := some true) (z := true) (t := true) (by have h := isConfigP_any (.slice a31 NS c31) S _ HO.out; rw [(conf_yes hcS).1] at h; exact h) rfl rfl)
      clear hcS
      go_wp2_with fail
      refine HG.out.mono ?_
      rintro e w34 ⟨rfl, hL34⟩
      have HL34 := hid (HL33.out.trans hL34)
      clear hL34
      go_wp2_with fail
      go_ret
      exact ⟨rfl, HL34.out⟩
  · go_wp2_with fail
    go_ret
    exact ⟨rfl, Later.refl _⟩
end Go.Proofs.Ytoaopmafokoaoaa
