/- The walk of the law FnMarkovMoves. -/
import Derived.Test.YtdahhcigphhfdabAsD
import Derived.Test.YtdahhcigphhfdabCuMl
import Derived.Test.YtdahhcigphhfdabMuU
import Derived.Test.YtdahhcigphhfdabMuV
namespace Go.Proofs.Ytdahhcigphhfdab
open Go.RowKit

theorem ifNotG {c : Prop} [Decidable c] {A B : Prop} (hc : ¬ c) (h : B) : if c then A else B := by rw [if_neg hc]; exact h
set_option maxRecDepth 100000 in
set_option maxHeartbeats 8000000 in
theorem lawMarkovMoves_walk (u v : Value) (xs ys : List Int) (w : World) (hx : BytesR w u xs) (hy : BytesR w v ys) :
    Calls Try.prog 6 #[u, v] w fun e w' => e = .returned (.bool true) ∧ Later w w' := by
  have HX := hid hx
  have HY := hid hy
  clear hx hy
  go_enter Try.func6, Try.ntmps6
  go_wp2_with fail
  refine (big_any u v xs ys w HX.out HY.out).mono ?_
  rintro e w0 ⟨⟨b, rfl, _⟩, rfl⟩
  cases b
  · go_wp2_with fail
    refine (drawMarkovMove_any u xs w HX.out).mono ?_
    rintro e w1 ⟨u1, zs, k, rfl, hO, hlen, hL1⟩
    obtain ⟨p1, c1, rfl, hcap⟩ := hO.shape
    have HI := hid hO.ints
    have HL1 := hid hL1
    clear hO hL1 hcap hlen
    obtain ⟨o, ho⟩ : ∃ o, moveAns zs k = o := ⟨_, rfl⟩
    obtain ⟨z, hz⟩ : ∃ r, o.getD [] = r := ⟨_, rfl⟩
    obtain ⟨t, ht⟩ : ∃ t, o.isSome = t := ⟨_, rfl⟩
    obtain ⟨N, hN⟩ : ∃ N, zs.length = N := ⟨_, rfl⟩
    obtain ⟨M, hM⟩ : ∃ N, z.length = N := ⟨_, rfl⟩
    have HC := hid (fun w0 (h : Later w1 w0) => ints_asG (by have h := implMarkovMove_any _ zs k w0 (HI.out.later h); rw [ho] at h; exact h) hz ht)
    have HS := hid (fun w0 (h : Later w1 w0) => ints_asG (by have h := specMarkovMove_any _ zs k w0 (HI.out.later h); rw [ho] at h; exact h) hz ht)
    rw [hN] at HI HC HS ⊢
    rw [hM] at HC HS
    have HO := hid ho
    have HN := hid hN
    have HM := hid hM
    have HZ := hid hz
    have HT := hid ht
    have htt : (t != t) = false := by simp
    clear ho hz ht hN hM
    go_wp2_with fail
    refine (HC.out _ (Later.refl _)).mono ?_
    rintro e w2 ⟨a2, c2, rfl, hi2, hc2, hL2⟩
    have HI2 := hid hi2
    have HL2 := hid hL2
    clear hi2 hc2 hL2
    go_wp2_with fail
    refine (HS.out _ HL2.out).mono ?_
    rintro e w3 ⟨a3, c3, rfl, hi3, hc3, hL3⟩
    have HV := hid (dSame_same (.slice a2 M c2) (.slice a3 M c3) z _ (HI2.out.later hL3) hi3)
    have HI3 := hid (HI2.out.later hL3)
    have HL3 := hid (HL2.out.trans hL3)
    clear hi3 hc3 hL3 HI2 HL2 HC HS
    go_wp2_with fail
    refine HV.out.mono ?_
    rintro e w4 ⟨rfl, n4, rfl⟩
    have HL4 := hid (HL3.out.trans (Later.drewN w3 n4))
    have HI4 := hid (HI3.out.drewN n4)
    generalize w3.drewN n4 = w4 at HL4 HI4 ⊢
    clear HV HI3 HL3 htt
    go_upto_if 64 with fail
    go_cut [] (fun wx => Later w4 wx)
    case first =>
      cases t
      · go_wp2_with fail
        go_meet
        case rel => exact Later.refl _
      · as_aux_lemma =>
        obtain ⟨q, hq⟩ : ∃ q, o = some q := Option.isSome_iff_exists.1 HT.out
        subst hq
        have hz := HZ.out
        simp only [Option.getD_some] at hz
        subst hz
        obtain ⟨hg, h3, k0, hk0, hback⟩ := move_law HO.out
        have HBK := hid hback
        have HIM := hid (res_asG (implIsMarkov_any (.slice a2 M c2) q w4 HI4.out) hg)
        have HMV := hid (fun w0 (h : Later w4 w0) (i : Int) => implMarkovMove_any (.slice a2 M c2) q i w0 (HI4.out.later h))
        clear hg h3 hback
        go_wp2_with fail
        refine HIM.out.mono ?_
        rintro e w5 ⟨rfl, hL5⟩
        have HL5 := hid hL5
        clear hL5 HIM
        go_wp2_with fail
        go_loopw [11, 12] (fun f s wr => ∃ (b : Bool) (k : Nat), k ≤ 3 ∧ f = .bool b ∧ s = .int .i64 k ∧ (k0 < k → b = true) ∧ Later w4 wr) (fun _ s _ => 3 - (intOf s).toNat)
        case atStart => exact ⟨false, 0, by omega, rfl, rfl, fun h => absurd h (Nat.not_lt_zero _), HL5.out⟩
        case round =>
          obtain ⟨b, j, hj, rfl, rfl, hb, hLr⟩ := hrel
          have HB := hid hb
          have HLr := hid hLr
          clear hb hLr
          by_cases hlt : j < 3
          · have hltI : (j : Int) < 3 := by omega
            obtain ⟨o2, ho2⟩ : ∃ o, moveAns q (j : Int) = o := ⟨_, rfl⟩
            obtain ⟨z2, hz2⟩ : ∃ r, o2.getD [] = r := ⟨_, rfl⟩
            obtain ⟨t2, ht2⟩ : ∃ t, o2.isSome = t := ⟨_, rfl⟩
            obtain ⟨d, hd⟩ : ∃ d, decide (z2 = zs) = d := ⟨_, rfl⟩
            have HM2 := hid (ints_asG (by have h := HMV.out wr HLr.out j; rw [ho2] at h; exact h) hz2 ht2)
            have HK := hid (fun h : j = k0 => show t2 = true ∧ d = true by
              rw [h, HBK.out] at ho2
              rw [← ho2] at hz2 ht2
              exact ⟨ht2.symm, by rw [← hd, ← hz2]; simp⟩)
            have HD := hid hd
            clear ho2 hz2 ht2 hd
            go_wp2_with fail
            refine HM2.out.mono ?_
            rintro e w6 ⟨a6, c6, rfl, hi6, _, hL6⟩
            have HL6 := hid (HLr.out.trans hL6)
            have HV := hid (dSame_anyG (.slice a6 z2.length c6) (.slice p1 N c1) z2 zs d w6 hi6 (HI.out.later (HL4.out.trans HL6.out)) HD.out)
            clear hi6 hL6 HM2
            cases b
            · cases t2
              · go_wp2_with fail
                go_roundw
                case rel => exact ⟨false, j + 1, hlt, rfl, by go_num, fun h => by
                  by_cases e : j = k0
                  · exact absurd (HK.out e).1 (by simp)
                  · exact absurd (HB.out (by omega)) (by simp), HL6.out⟩
                case measure => simp [intOf]; omega
              · go_wp2_with fail
                refine HV.out.mono ?_
                rintro e w7 ⟨rfl, n7, rfl⟩
                go_wp2_with fail
                go_roundw
                case rel => exact ⟨d, j + 1, hlt, rfl, by go_num, fun h => by
                  by_cases e : j = k0
                  · exact (HK.out e).2
                  · exact absurd (HB.out (by omega)) (by simp), HL6.out.trans (Later.drewN _ _)⟩
                case measure => simp [intOf]; omega
            · go_wp2_with fail
              go_roundw
              case rel => exact ⟨true, j + 1, hlt, rfl, by go_num, fun _ => rfl, HL6.out⟩
              case measure => simp [intOf]; omega
          · obtain rfl : b = true := HB.out (by omega)
            obtain rfl : j = 3 := by omega
            go_wp2_with fail
            go_meet
            case rel => exact HLr.out
    case rest =>
    have HLc := hid (HL1.out.trans (HL4.out.trans hcut))
    clear hcut HI4 HL4 HO HZ HT HN HM HI HL1
    go_wp2_with fail
    refine (drawMarkovUp_any v ys _ (HY.out.later HLc.out)).mono ?_
    rintro e wd ⟨u2, us, rfl, hO, hlen2, hLd⟩
    obtain ⟨p2, cc2, rfl, hcap⟩ := hO.shape
    have HU := hid hO.ints
    have HLd := hid (HLc.out.trans hLd)
    clear hO hcap hLd HLc hlen2
    obtain ⟨ou, hou⟩ : ∃ o, upAnsM us = o := ⟨_, rfl⟩
    obtain ⟨L, hL⟩ : ∃ r, ou.getD [] = r := ⟨_, rfl⟩
    obtain ⟨tu, htu⟩ : ∃ t, ou.isSome = t := ⟨_, rfl⟩
    obtain ⟨od, hod⟩ : ∃ o, downAns us = o := ⟨_, rfl⟩
    obtain ⟨zd, hzd⟩ : ∃ r, od.getD [] = r := ⟨_, rfl⟩
    obtain ⟨td, htd⟩ : ∃ t, od.isSome = t := ⟨_, rfl⟩
    have hgd : mkGoodW us = tu := by rw [← upAns_is, hou, htu]
    obtain ⟨N2, hN2⟩ : ∃ N, us.length = N := ⟨_, rfl⟩
    obtain ⟨n, hn⟩ : ∃ N, L.length = N := ⟨_, rfl⟩
    obtain ⟨D, hD⟩ : ∃ N, zd.length = N := ⟨_, rfl⟩
    have HA := hid (fun w0 (h : Later wd w0) => rows_asG (by have h := implMarkovUp_any _ us w0 (HU.out.later h); rw [hou] at h; exact h) hL htu)
    have HB := hid (fun w0 (h : Later wd w0) => rows_asG (by have h := specMarkovUp_any _ us w0 (HU.out.later h); rw [hou] at h; exact h) hL htu)
    have HC := hid (fun w0 (h : Later wd w0) => ints_asG (by have h := implMarkovDown_any _ us w0 (HU.out.later h); rw [hod] at h; exact h) hzd htd)
    have HE := hid (fun w0 (h : Later wd w0) => ints_asG (by have h := specMarkovDown_any _ us w0 (HU.out.later h); rw [hod] at h; exact h) hzd htd)
    have HIM := hid (fun w0 (h : Later wd w0) => res_asG (implIsMarkov_any _ us w0 (HU.out.later h)) hgd)
    rw [hN2] at HU HA HB HC HE HIM ⊢
    rw [hn] at HA HB
    rw [hD] at HC HE
    have HOU := hid hou
    have HL := hid hL
    have HTU := hid htu
    have HOD := hid hod
    have HZD := hid hzd
    have HTD := hid htd
    have HN2 := hid hN2
    have HN := hid hn
    have HD := hid hD
    have h1 : (tu != tu) = false := by simp
    have h2 : (td != td) = false := by simp
    clear hou hL htu hod hzd htd hN2 hn hD hgd
    go_wp2_with fail
    refine (HA.out _ (Later.refl _)).mono ?_
    rintro e w2 ⟨a2', c2', rfl, hr2, hL2⟩
    have HR2 := hid hr2
    have HL2 := hid hL2
    clear hr2 hL2
    go_wp2_with fail
    refine (HB.out _ HL2.out).mono ?_
    rintro e w3 ⟨a3', c3', rfl, hr3, hL3⟩
    have HR23 := hid (HR2.out.later hL3)
    have HR3 := hid hr3
    have HL3 := hid (HL2.out.trans hL3)
    clear hr3 hL3 HR2 HL2
    go_wp2_with fail
    refine (HC.out _ HL3.out).mono ?_
    rintro e w4 ⟨a4, c4, rfl, hi4, _, hL4⟩
    have HR24 := hid (HR23.out.later hL4)
    have HR34 := hid (HR3.out.later hL4)
    have HI4 := hid hi4
    have HL4 := hid (HL3.out.trans hL4)
    clear hi4 hL4 HR23 HR3 HL3
    go_wp2_with fail
    refine (HE.out _ HL4.out).mono ?_
    rintro e w5 ⟨a5, c5, rfl, hi5, _, hL5⟩
    have HR25 := hid (HR24.out.later hL5)
    have HI45 := hid (HI4.out.later hL5)
    have HV1 := hid (dLists_same (.slice a2' n c2') (.slice a3' n c3') L w5 (by have h := HR25.out.1; rw [HN.out] at h; exact h) (by have h := (HR34.out.later hL5).1; rw [HN.out] at h; exact h))
    have HI5 := hid hi5
    have HL5 := hid (HL4.out.trans hL5)
    clear hi5 hL5 HR24 HR34 HI4 HL4 HA HB HC HE
    go_wp2_with fail
    refine HV1.out.mono ?_
    rintro e w6 ⟨rfl, n6, rfl⟩
    have HL6 := hid (Later.drewN w5 n6)
    generalize w5.drewN n6 = w6 at HL6 ⊢
    have HV2 := hid (dSame_same (.slice a4 D c4) (.slice a5 D c5) zd w6 (HI45.out.later HL6.out) (HI5.out.later HL6.out))
    go_wp2_with fail
    refine HV2.out.mono ?_
    rintro e w7 ⟨rfl, n7, rfl⟩
    have HL7 := hid (HL6.out.trans (Later.drewN w6 n7))
    generalize w6.drewN n7 = w7 at HL7 ⊢
    go_wp2_with fail
    refine (HIM.out _ (HL5.out.trans HL7.out)).mono ?_
    rintro e w8 ⟨rfl, hL8⟩
    have HL8 := hid (HL7.out.trans hL8)
    have HR8 := hid (HR25.out.later HL8.out)
    have HI8 := hid (HI45.out.later HL8.out)
    have HLd8 := hid (HL5.out.trans HL8.out)
    clear hL8 HV1 HV2 HI5 HI45 HR25 HL5 HL6 HL7 HL8 HIM
    go_upto_if 137 with fail
    clear h1 h2
    go_cut [] (fun wx => Later w8 wx)
    case first =>
      cases tu
      · go_wp2_with fail
        go_meet
        case rel => exact Later.refl _
      · as_aux_lemma =>
        obtain ⟨q, hq⟩ : ∃ q, ou = some q := Option.isSome_iff_exists.1 HTU.out
        subst hq
        have hz := HL.out
        simp only [Option.getD_some] at hz
        subst hz
        obtain ⟨x, y, z, hus, hT, _, hups⟩ := upAns_some HOU.out
        have hdl := down_law hT
        rw [← hus, HOD.out] at hdl
        obtain ⟨ad, e3, e4, _, _, d2⟩ := (show Ints wd (.slice p2 N2 cc2) [x, y, z] by rw [← hus]; exact HU.out).threeG
        subst e3 e4
        have HK2 := hid d2
        have k2 := HLd8.out.cell d2
        have HUPS := hid hups
        have HT3 := hid hT
        have hzb := hT.2.2.1
        have hnB : n ≤ 9223372036854775807 := by obtain ⟨_, _, _, h, _⟩ := HR8.out.1; rw [HN.out] at h; exact h
        clear hus hT hups d2
        -- what the loop leaves
        have HLOOP : Hid (∀ (wr : World) (k : Nat), Later w8 wr → k < n → ∃ ad2 a3 c3 a b c, a2' = some ad2 ∧ wr.cell? (ad2.add k) = some (.slice (some a3) 3 c3) ∧ wr.cell? ⟨a3.block, a3.off + 2, none⟩ = some (.int .i64 c) ∧ z < c ∧ Ints wr (.slice (some a3) 3 c3) [a, b, c] ∧ downAns [a, b, c] = some us) := hid (by
          intro wr k hL hk
          obtain ⟨ad2, b2, c3, e5, hc, _, hI⟩ := (HR8.out.later hL).2 k (by rw [HN.out]; exact hk)
          obtain ⟨a, b, c, e6, hlt, hdn⟩ := HUPS.out (q[k]'(by rw [HN.out]; exact hk)) (List.getElem_mem _)
          have e7 : q.getD k [] = [a, b, c] := by rw [List.getD_eq_getElem?_getD, List.getElem?_eq_getElem (by rw [HN.out]; exact hk), e6]; rfl
          rw [e7] at hc hI
          obtain ⟨a3, e8, _, _, _, f2⟩ := hI.threeG
          subst e8
          rw [e6] at hdn
          exact ⟨ad2, a3, c3, a, b, c, e5, hc, f2, hlt, hI, hdn⟩)
        rcases hdl with ⟨hz1, hno⟩ | ⟨hz1, p', q', r', hso, hgp, hrz⟩
        · obtain rfl : td = false := by rw [← HTD.out, hno]; rfl
          subst hz1
          clear hno
          go_wp2_with fail
          go_loopw [146] (fun i wr => ∃ k : Nat, k ≤ n ∧ i = .int .i64 k ∧ Later w8 wr) (fun i _ => n - (intOf i).toNat)
          case atStart => exact ⟨0, Nat.zero_le _, rfl, Later.refl _⟩
          case round =>
            obtain ⟨k, hk, rfl, hLr⟩ := hrel
            have HLr := hid hLr
            clear hLr
            by_cases hlt : k < n
            · obtain ⟨ad2, a3, c3, a, b, c, rfl, hc, f3, hzc, hI3, hdn⟩ := HLOOP.out wr k HLr.out hlt
              have hltI : (k : Int) < (n : Int) := by omega
              have HDN := hid (ints_asG (o := some us) (z := us) (t := true) (by have h := implMarkovDown_any (.slice (some a3) 3 c3) [a, b, c] wr hI3; rw [hdn] at h; exact h) rfl rfl)
              rw [HN2.out] at HDN
              have HF3 := hid f3
              have hcz : ¬ c ≤ 1 := by omega
              clear hI3 hdn f3 hzc
              go_wp2_with fail
              refine HDN.out.mono ?_
              rintro e w9 ⟨a9, c9, rfl, hi9, _, hL9⟩
              have HI9 := hid hi9
              have HL9 := hid (HLr.out.trans hL9)
              have kz := HL9.out.cell (HLd8.out.cell HK2.out)
              have kf := hL9.cell HF3.out
              have HVQ := hid (fun m => dSame_same (.slice a9 3 c9) (.slice (some ad) 3 cc2) us _ (HI9.out.drewN m) ((HU.out.later (HLd8.out.trans HL9.out)).drewN m))
              clear hi9 hL9 HDN hc
              go_upto_region 33 with fail
              go_quiet ((go_at_call 35; exact Calls.quiet_of (HVQ.out _)))
              go_wp2_with fail
              go_roundw
              case rel => exact ⟨k + 1, hlt, by go_num, HL9.out.trans (Later.drewN _ _)⟩
              case measure => simp [intOf]; omega
            · go_wp2_with fail
              refine wp_region_laterG (by kernel_rfl) (by kernel_rfl) ?_
              repeat
                with_reducible refine wpQuiet_step (fun K hK => ?_)
                go_simp
                first
                  | (with_reducible refine hK _ ?_; clear hK K)
                  | (with_reducible refine ifNotG ?_ ?_
                     · intro h; cases h
                     with_reducible refine hK _ ?_
                     clear hK K)
              with_reducible refine wpQuiet_nil ?_
              intro w7 hw'
              obtain ⟨⟨wq, hLq⟩, hw''⟩ := hw'
              subst hw''
              have HLq := hid (HLr.out.trans hLq)
              clear hLq
              go_wp2_with fail
              go_meet
              case rel => exact HLq.out
        · obtain rfl : td = true := by rw [← HTD.out, hso]; rfl
          have hzd : zd = [p', q', r'] := by rw [← HZD.out, hso]; rfl
          have hz1b : (1 : Int) < z := hz1
          have HID := HI8.out
          rw [hzd] at HID
          obtain ⟨ae, e5, e6, _, _, f2⟩ := (show Ints w8 (.slice a4 D c4) [p', q', r'] from HID).threeG
          subst e5 e6
          have HF2 := hid f2
          have HGP := hid (fun w0 (h : Later w8 w0) => res_asG (implIsMarkov_any (.slice (some ae) 3 c4) [p', q', r'] w0 (HID.later h)) hgp)
          have hrz2 : ¬ z ≤ r' := by omega
          clear hso hgp hrz hzd HID f2
          go_wp2_with fail
          go_loopw [146] (fun i wr => ∃ k : Nat, k ≤ n ∧ i = .int .i64 k ∧ Later w8 wr) (fun i _ => n - (intOf i).toNat)
          case atStart => exact ⟨0, Nat.zero_le _, rfl, Later.refl _⟩
          case round =>
            obtain ⟨k, hk, rfl, hLr⟩ := hrel
            have HLr := hid hLr
            clear hLr
            by_cases hlt : k < n
            · obtain ⟨ad2, a3, c3, a, b, c, rfl, hc, f3, hzc, hI3, hdn⟩ := HLOOP.out wr k HLr.out hlt
              have hltI : (k : Int) < (n : Int) := by omega
              have HDN := hid (ints_asG (o := some us) (z := us) (t := true) (by have h := implMarkovDown_any (.slice (some a3) 3 c3) [a, b, c] wr hI3; rw [hdn] at h; exact h) rfl rfl)
              rw [HN2.out] at HDN
              have HF3 := hid f3
              have hcz : ¬ c ≤ z := by omega
              clear hI3 hdn f3 hzc
              go_wp2_with fail
              refine HDN.out.mono ?_
              rintro e w9 ⟨a9, c9, rfl, hi9, _, hL9⟩
              have HI9 := hid hi9
              have HL9 := hid (HLr.out.trans hL9)
              have kz := HL9.out.cell (HLd8.out.cell HK2.out)
              have kf := hL9.cell HF3.out
              have HVQ := hid (fun m => dSame_same (.slice a9 3 c9) (.slice (some ad) 3 cc2) us _ (HI9.out.drewN m) ((HU.out.later (HLd8.out.trans HL9.out)).drewN m))
              clear hi9 hL9 HDN hc
              go_upto_region 33 with fail
              go_quiet ((go_at_call 35; exact Calls.quiet_of (HVQ.out _)))
              go_wp2_with fail
              go_roundw
              case rel => exact ⟨k + 1, hlt, by go_num, HL9.out.trans (Later.drewN _ _)⟩
              case measure => simp [intOf]; omega
            · go_wp2_with fail
              have qz : ∀ p : LaterH wr, p.now.cell? ⟨ad.block, ad.off + 2, none⟩ = some (.int .i64 z) := fun p => p.later.cell (HLr.out.cell (HLd8.out.cell HK2.out))
              have qr : ∀ p : LaterH wr, p.now.cell? ⟨ae.block, ae.off + 2, none⟩ = some (.int .i64 r') := fun p => p.later.cell (HLr.out.cell HF2.out)
              have HGQ := hid (fun p : LaterH wr => HGP.out p.now (HLr.out.trans p.later))
              refine wp_region_laterG (by kernel_rfl) (by kernel_rfl) ?_
              repeat
                with_reducible refine wpQuiet_step (fun K hK => ?_)
                go_simp
                first
                  | (with_reducible refine hK _ ?_; clear hK K)
                  | (apply Exists.intro
                     refine ⟨fun _ => ?_, hK _ ?_⟩
                     (go_at_call 45; with_reducible exact Calls.laterH _ (HGQ.out _))
                     clear hK K)
              with_reducible refine wpQuiet_nil ?_
              intro w7 hw'
              obtain ⟨⟨wq, hLq⟩, hw''⟩ := hw'
              subst hw''
              have HLq := hid (HLr.out.trans hLq)
              clear hLq
              go_wp2_with fail
              go_meet
              case rel => exact HLq.out
    case rest =>
    as_aux_lemma =>
    have HLe := hid (HLd.out.trans (HLd8.out.trans hcut))
    clear hcut HLd HLd8 HR8 HI8 HOU HL HTU HOD HZD HTD HN2 HN HD HU
    go_wp2_with fail
    refine (drawSolvesMarkov_any v ys _ (HY.out.later HLe.out)).mono ?_
    rintro e we ⟨u3, ks, rfl, hO, hlen3, hLw⟩
    obtain ⟨p3, cc3, rfl, hcap⟩ := hO.shape
    have HK := hid hO.ints
    have HLw := hid (HLe.out.trans hLw)
    clear hO hcap hLw HLe hlen3
    obtain ⟨oa, hoa⟩ : ∃ o, solvesAns ks = o := ⟨_, rfl⟩
    obtain ⟨za, hza⟩ : ∃ r, oa.getD false = r := ⟨_, rfl⟩
    obtain ⟨ta, hta⟩ : ∃ t, oa.isSome = t := ⟨_, rfl⟩
    obtain ⟨N3, hN3⟩ : ∃ N, ks.length = N := ⟨_, rfl⟩
    have HA := hid (fun w0 (h : Later we w0) => bool_as9 (by have h := implSolvesMarkov_any _ ks w0 (HK.out.later h); rw [hoa] at h; exact h) hza hta)
    have HB := hid (fun w0 (h : Later we w0) => bool_as9 (by have h := specSolvesMarkov_any _ ks w0 (HK.out.later h); rw [hoa] at h; exact h) hza hta)
    rw [hN3] at HK HA HB ⊢
    have HOA := hid hoa
    have HZA := hid hza
    have HN3 := hid hN3
    have h1 : (ta != ta) = false := by simp
    have h2 : (za != za) = false := by simp
    clear hoa hza hta hN3
    go_wp2_with fail
    refine (HA.out _ (Later.refl _)).mono ?_
    rintro e w2 ⟨rfl, hL2⟩
    have HL2 := hid hL2
    clear hL2
    go_wp2_with fail
    refine (HB.out _ HL2.out).mono ?_
    rintro e w3 ⟨rfl, hL3⟩
    have HL3 := hid (HL2.out.trans hL3)
    clear hL3 HL2 HA HB
    go_upto_if 208 with fail
    clear h1 h2
    cases za
    · go_wp2_with fail
      go_ret
      exact ⟨rfl, HLw.out.trans HL3.out⟩
    · have hoa : solvesAns ks = some true := by
        rw [HOA.out]
        have h := HZA.out
        cases oa with
        | none => simp at h
        | some b => simp only [Option.getD_some] at h; rw [h]
      obtain ⟨x, y, z, hks, hst⟩ := solves_turn hoa
      obtain ⟨ad, e3, e4, d0, d1, d2⟩ := (show Ints we (.slice p3 N3 cc3) [x, y, z] by rw [← hks]; exact HK.out).threeG
      subst e3 e4
      have kc0 := HL3.out.cell d0
      have kc1 := HL3.out.cell d1
      have kc2 := HL3.out.cell d2
      have HST := hid (fun w0 a (h : Ints w0 (.slice a 3 3) [z, x, y]) => bool_as9 (o := some true) (z := true) (t := true) (by have h := implSolvesMarkov_any (.slice a 3 3) [z, x, y] w0 h; rw [hst] at h; exact h) rfl rfl)
      have HIL := hid (show Ints (w3.alloc (.cells #[.int .i64 z, .int .i64 x, .int .i64 y] 3)) (.slice (some ⟨w3.heap.size, 0, none⟩) 3 3) [z, x, y] from (ownInts_litG w3 w3.heap.size (Nat.le_refl _) [z, x, y] (by simp)).ints)
      have HLA := hid (Later.alloc w3 (.cells #[.int .i64 z, .int .i64 x, .int .i64 y] 3))
      clear hoa hks hst d0 d1 d2 HOA HZA
      go_wp2_with fail
      go_region_held3 (fun w' => w'.cell? ad = some (.int .i64 x) ∧ w'.cell? ⟨ad.block, ad.off + 1, none⟩ = some (.int .i64 y) ∧ w'.cell? ⟨ad.block, ad.off + 2, none⟩ = some (.int .i64 z)) (first | exact ⟨kc0, kc1, kc2⟩ | exact ⟨(HLA.out.trans (Later.drew _)).cell kc0, (HLA.out.trans (Later.drew _)).cell kc1, (HLA.out.trans (Later.drew _)).cell kc2⟩ | exact ⟨kd0, kd1, kd2⟩) ((go_at_call 53; refine (HST.out _ _ (by exact HIL.out.later (Later.drew _))).mono ?_; rintro e w9 ⟨rfl, hL9⟩; have hLq := (HLA.out.trans (Later.drew _)).trans hL9; have kd0 := hLq.cell kc0; have kd1 := hLq.cell kc1; have kd2 := hLq.cell kc2; have HLq := hid hLq; clear hL9 hLq))
      go_wp2_with fail
      go_ret
      exact ⟨rfl, HLw.out.trans (HL3.out.trans HLq.out)⟩
  · go_wp2_with fail
    go_ret
    exact ⟨rfl, Later.refl _⟩
end Go.Proofs.Ytdahhcigphhfdab
