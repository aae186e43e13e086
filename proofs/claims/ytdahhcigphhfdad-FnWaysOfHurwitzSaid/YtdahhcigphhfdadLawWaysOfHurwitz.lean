/- The walk of the law FnWaysOfHurwitz. -/
import Derived.Test.YtdahhcigphhfdadCuHw
import Derived.Test.YtdahhcigphhfdadHuQ
import Derived.Test.YtdahhcigphhfdadHuY
import Derived.Test.YtdahhcigphhfdadHuDj
import Derived.Test.YtdahhcigphhfdadHuWi
import Derived.Test.YtdahhcigphhfdadHuWu
namespace Go.Proofs.Ytdahhcigphhfdad
open Go.RowKit

set_option maxRecDepth 100000 in
set_option maxHeartbeats 8000000 in
theorem lawWaysOfHurwitz_walk (u v : Value) (xs ys : List Int) (w : World) (hx : BytesR w u xs) (hy : BytesR w v ys) :
    Calls Try.prog 4 #[u, v] w fun e w' => e = .returned (.bool true) ∧ Later w w' := by
  have HX := hid hx
  have HY := hid hy
  clear hx hy
  go_enter Try.func4, Try.ntmps4
  go_wp2_with fail
  refine (big_any u v xs ys w HX.out HY.out).mono ?_
  rintro e w0 ⟨⟨b, rfl, _⟩, rfl⟩
  cases b
  · go_wp2_with fail
    refine (drawWayDown_any u xs w HX.out).mono ?_
    rintro e w1 ⟨u1, zs, α, β, rfl, hO, hlen, hL1⟩
    obtain ⟨p1, c1, rfl, hcap⟩ := hO.shape
    have HI := hid hO.ints
    have HIC := hid hO.intsC
    have HL1 := hid hL1
    clear hO hL1 hcap
    obtain ⟨o, ho⟩ : ∃ o, wayAns zs α β = o := ⟨_, rfl⟩
    obtain ⟨of, hof⟩ : ∃ o, fundLAns zs α β = o := ⟨_, rfl⟩
    obtain ⟨ou, hou⟩ : ∃ o, upAns zs α β = o := ⟨_, rfl⟩
    obtain ⟨og, hog⟩ : ∃ o, fundAns zs α β = o := ⟨_, rfl⟩
    obtain ⟨t, ht⟩ : ∃ t, (givenB α β && solB zs α β) = t := ⟨_, rfl⟩
    have hlaw := ways_law zs α β
    rw [ho, hof, hou, hog, ht] at hlaw
    have h4 : o.isSome = t ∧ of.isSome = t ∧ ou.isSome = t ∧ og.isSome = t := by
      rcases hlaw with ⟨rfl, rfl, rfl, rfl, rfl⟩ | ⟨hS, rfl, rfl, rfl, rfl⟩
      · exact ⟨rfl, rfl, rfl, rfl⟩
      · rw [← ht, hS.given, hS.sol]; exact ⟨rfl, rfl, rfl, rfl⟩
    obtain ⟨L, hL⟩ : ∃ r, o.getD [] = r := ⟨_, rfl⟩
    obtain ⟨F, hF⟩ : ∃ r, of.getD [] = r := ⟨_, rfl⟩
    obtain ⟨U, hU⟩ : ∃ r, ou.getD [] = r := ⟨_, rfl⟩
    obtain ⟨g, hg⟩ : ∃ r, og.getD false = r := ⟨_, rfl⟩
    obtain ⟨N, hN⟩ : ∃ N, zs.length = N := ⟨_, rfl⟩
    obtain ⟨n, hn⟩ : ∃ N, L.length = N := ⟨_, rfl⟩
    obtain ⟨m, hm⟩ : ∃ N, U.length = N := ⟨_, rfl⟩
    obtain ⟨k, hk⟩ : ∃ N, F.length = N := ⟨_, rfl⟩
    have HA := hid (fun w0 (h : Later w1 w0) => rows_asG (by have h := implWayDown_any _ zs α β w0 (HI.out.later h); rw [ho] at h; exact h) hL h4.1)
    have HB := hid (fun w0 (h : Later w1 w0) => rows_asG (by have h := specWayDown_any _ zs α β w0 (HIC.out.later h); rw [ho] at h; exact h) hL h4.1)
    have HC := hid (fun w0 (h : Later w1 w0) => ints_asG (by have h := implFundamentalOf_any _ zs α β w0 (HI.out.later h); rw [hof] at h; exact h) hF h4.2.1)
    have HD := hid (fun w0 (h : Later w1 w0) => ints_asG (by have h := implWordUp_any _ zs α β w0 (HI.out.later h); rw [hou] at h; exact h) hU h4.2.2.1)
    have HE := hid (fun w0 (h : Later w1 w0) => ints_asG (by have h := specWordUp_any _ zs α β w0 (HIC.out.later h); rw [hou] at h; exact h) hU h4.2.2.1)
    have HG := hid (fun w0 (h : Later w1 w0) => bool_as9 (by have h := implIsFundamental_any _ zs α β w0 (HI.out.later h); rw [hog] at h; exact h) hg h4.2.2.2)
    have HVS := hid (fun w0 (h : Later w1 w0) => vSolves_as _ zs α β t w0 ht (HI.out.later h))
    rw [hN] at HI HIC HA HB HC HD HE HG HVS hlen ⊢
    rw [hn] at HA HB
    rw [hm] at HD HE
    rw [hk] at HC
    have hfacts : t = true → Sol zs α β ∧ L = wayL α zs ∧ F = L.getD (n - 1) [] ∧ U = upW α L (n - 1) ∧ g = lastB α zs := by
      intro h
      rcases hlaw with ⟨h1, _⟩ | ⟨hS, h1, h2, h3, h5⟩
      · rw [h] at h1; cases h1
      · have e1 : L = wayL α zs := by rw [← hL, h1]; rfl
        rw [← e1] at h2 h3
        rw [hn] at h2 h3
        exact ⟨hS, e1, by rw [← hF, h2]; rfl, by rw [← hU, h3]; rfl, by rw [← hg, h5]; rfl⟩
    have HF := hid hfacts
    have HN := hid hN
    have HNn := hid hn
    have HM := hid hm
    have HK := hid hk
    have h1 : (t != t) = false := by simp
    clear ho hof hou hog ht hlaw h4 hL hF hU hg hN hn hm hk hfacts
    go_wp2_with fail
    refine (HA.out _ (Later.refl _)).mono ?_
    rintro e w2 ⟨a2, c2, rfl, hr2, hL2⟩
    have HR2 := hid hr2
    have HL2 := hid hL2
    clear hr2 hL2
    go_wp2_with fail
    refine (HB.out _ HL2.out).mono ?_
    rintro e w3 ⟨a3, c3, rfl, hr3, hL3⟩
    have HR23 := hid (HR2.out.later hL3)
    have HR3 := hid hr3
    have HL3 := hid (HL2.out.trans hL3)
    clear hr3 hL3 HR2 HL2 HA HB
    go_wp2_with fail
    refine (HC.out _ HL3.out).mono ?_
    rintro e w4 ⟨a4, c4, rfl, hi4, _, hL4⟩
    have HR24 := hid (HR23.out.later hL4)
    have HR34 := hid (HR3.out.later hL4)
    have HI4 := hid hi4
    have HL4 := hid (HL3.out.trans hL4)
    clear hi4 hL4 HR23 HR3 HL3 HC
    go_wp2_with fail
    refine (HD.out _ HL4.out).mono ?_
    rintro e w5 ⟨a5, c5, rfl, hi5, _, hL5⟩
    have HR25 := hid (HR24.out.later hL5)
    have HR35 := hid (HR34.out.later hL5)
    have HI45 := hid (HI4.out.later hL5)
    have HI5 := hid hi5
    have HL5 := hid (HL4.out.trans hL5)
    clear hi5 hL5 HR24 HR34 HI4 HL4 HD
    go_wp2_with fail
    refine (HE.out _ HL5.out).mono ?_
    rintro e w6 ⟨a6, c6, rfl, hi6, _, hL6⟩
    have HR26 := hid (HR25.out.later hL6)
    have HR36 := hid (HR35.out.later hL6)
    have HI46 := hid (HI45.out.later hL6)
    have HI56 := hid (HI5.out.later hL6)
    have HI6 := hid hi6
    have HL6 := hid (HL5.out.trans hL6)
    clear hi6 hL6 HR25 HR35 HI45 HI5 HL5 HE
    go_wp2_with fail
    refine (HG.out _ HL6.out).mono ?_
    rintro e w7 ⟨rfl, hL7⟩
    have HR2 := hid (HR26.out.later hL7)
    have HR3 := hid (HR36.out.later hL7)
    have HI4 := hid (HI46.out.later hL7)
    have HI5 := hid (HI56.out.later hL7)
    have HI6 := hid (HI6.out.later hL7)
    have HL7 := hid (HL6.out.trans hL7)
    have HV1 := hid (vSameLists_same (.slice a2 n c2) (.slice a3 n c3) L w7 (by have h := HR2.out.1; rw [HNn.out] at h; exact h) (by have h := HR3.out.1; rw [HNn.out] at h; exact h))
    have HV2 := hid (fun w' (h : Later w7 w') => vSame_same (.slice a5 m c5) (.slice a6 m c6) U w' (HI5.out.later h) (HI6.out.later h))
    clear hL7 HR26 HR36 HI46 HI56 HL6 HG
    go_upto_region 10 with fail
    go_cut [114] (fun s wx => s = .bool false ∧ Later w7 wx)
    case first =>
      as_aux_lemma =>
      go_wp2_with fail
      refine HV1.out.mono ?_
      rintro e w8 ⟨rfl, n8, rfl⟩
      go_wp2_with fail
      refine (HV2.out _ (Later.drewN _ _)).mono ?_
      rintro e w9 ⟨rfl, n9, rfl⟩
      go_wp2_with fail
      refine (HVS.out _ (HL7.out.trans (Later.drewN _ (n8 + n9)))).mono ?_
      rintro e w10 ⟨rfl, hL10⟩
      have HL10 := hid ((Later.drewN w7 (n8 + n9)).trans hL10)
      clear hL10
      go_wp2_with fail
      go_meet
      case rel => exact ⟨rfl, HL10.out⟩
    case rest =>
    as_aux_lemma =>
    obtain ⟨rfl, hLc⟩ := hcut
    have HR2 := hid (HR2.out.later hLc)
    have HI4 := hid (HI4.out.later hLc)
    have HI5 := hid (HI5.out.later hLc)
    have HL7 := hid (HL7.out.trans hLc)
    clear hLc HR3 HI6 HV1 HV2 HVS h1
    cases t
    · go_wp2_with fail
      go_ret
      exact ⟨rfl, HL1.out.trans HL7.out⟩
    · obtain ⟨hS, hLe, hFe, hUe, hge⟩ := HF.out rfl
      have h0 := way_zero α zs
      rw [← hLe, HNn.out] at h0
      have his := fun j (h : j < n) => way_is hS j (by rw [← hLe, HNn.out]; exact h)
      have hfall := fun j (h : j + 1 < n) => way_falls hS j (by rw [← hLe, HNn.out]; exact h)
      rw [← hLe, HNn.out] at his
      rw [← hLe] at hfall
      have hback := climb_back hS
      rw [← hLe, HNn.out, ← hFe, ← hUe] at hback
      have hme0 : m = n - 1 := by rw [← HM.out, hUe, upW_len]
      obtain ⟨n1, hn1⟩ : ∃ x, n = x + 1 := ⟨n - 1, by omega⟩
      have hme : m = n1 := by omega
      have hnm : n ≤ 9223372036854775807 := by have h := HR2.out.1; obtain ⟨_, _, _, h, _⟩ := h; rw [HNn.out] at h; exact h
      have hw1 : IntKind.i64.wrap ((n : Int) - 1) = (n1 : Int) := by rw [wrapQ (by omega)]; omega
      have hz := (his 0 (by omega)).2
      rw [h0.1, ← hge] at hz
      have hg1 : ((n : Int) == 1) = g := by
        rw [hz]
        by_cases e : n = 1
        · rw [decide_eq_true (show 0 + 1 = n by omega), beq_iff_eq.2 (show (n : Int) = 1 by omega)]
        · rw [decide_eq_false (show ¬ 0 + 1 = n by omega), beq_eq_false_iff_ne.2 (show (n : Int) ≠ 1 by omega)]
      have hg2 : ((m : Int) != (n1 : Int)) = false := by simp [hme]
      have hn1I : (n1 : Int) < (n : Int) := by omega
      have hn10 : (0 : Int) ≤ (n1 : Int) := by omega
      have hn0 : (0 : Int) < (n : Int) := by omega
      have hc := HR2.out.2
      rw [HNn.out] at hc
      obtain ⟨ad, r0, q0, rfl, hc0, _, hi0⟩ := hc 0 (by omega)
      obtain ⟨ad', r1, q1, e1, hc1, _, hi1⟩ := hc n1 (by omega)
      simp only [Option.some.injEq] at e1
      subst e1
      rw [h0.1, HN.out] at hc0 hi0
      rw [show ad.add 0 = ad by simp [Addr.add]] at hc0
      have hF1 : L.getD n1 [] = F := by rw [hFe]; congr 1; omega
      rw [hF1, HK.out] at hc1 hi1
      have HZ := hid h0
      have HIS := hid his
      have HFALL := hid hfall
      have HBACK := hid hback
      have HNE := hid hn1
      have HME := hid hme
      have HV1 := hid (vSame_same (.slice r0 N q0) (.slice p1 N c1) zs wc hi0 (HI.out.later HL7.out))
      have HV2 := hid (fun w' (h : Later wc w') => vSame_same (.slice r1 k q1) (.slice a4 k c4) F w' (hi1.later h) (HI4.out.later h))
      clear hS hLe hFe hUe hge h0 his hfall hback hme0 hme hz hc hi0 hi1 hF1 hn1
      go_upto_region 14 with fail
      go_cut [148] (fun s wx => s = .bool false ∧ Later wc wx)
      case first =>
        as_aux_lemma =>
        go_wp2_with fail
        refine HV1.out.mono ?_
        rintro e w8 ⟨rfl, n8, rfl⟩
        replace hc1 := (Later.drewN wc n8).cell hc1
        go_wp2_with fail
        refine (HV2.out _ (Later.drewN _ _)).mono ?_
        rintro e w9 ⟨rfl, n9, rfl⟩
        go_wp2_with fail
        go_meet
        case rel => exact ⟨rfl, Later.drewN _ _⟩
      case rest =>
      as_aux_lemma =>
      obtain ⟨rfl, hLc⟩ := hcut
      have HR2 := hid (HR2.out.later hLc)
      have HI4 := hid (HI4.out.later hLc)
      have HI5 := hid (HI5.out.later hLc)
      have HL7 := hid (HL7.out.trans hLc)
      clear hLc HV1 HV2 hc0 hc1
      go_wp2_with fail
      go_loopw [151] (fun i wr => ∃ j : Nat, j ≤ n ∧ i = .int .i64 j ∧ Later wc wr) (fun i _ => n - (intOf i).toNat)
      case atStart => exact ⟨0, Nat.zero_le _, rfl, Later.refl _⟩
      case round =>
        obtain ⟨j, hj, rfl, hLr⟩ := hrel
        have HLr := hid hLr
        clear hLr
        by_cases hlt : j < n
        · have hltI : (j : Int) < (n : Int) := by omega
          have hj0 : (0 : Int) ≤ (j : Int) := by omega
          obtain ⟨hSj, hlj⟩ := HIS.out j hlt
          obtain ⟨ad', rj, qj, e1, hcj, _, hij⟩ := HR2.out.2 j (by rw [HNn.out]; exact hlt)
          simp only [Option.some.injEq] at e1
          subst e1
          obtain ⟨R, hR⟩ : ∃ R, L.getD j [] = R := ⟨_, rfl⟩
          rw [hR] at hSj hlj hcj hij
          obtain ⟨ls, hls⟩ : ∃ b, decide (j + 1 = n) = b := ⟨_, rfl⟩
          rw [hls] at hlj
          have hls2 : ((j : Int) == (n1 : Int)) = ls := by
            rw [← hls]
            have := HNE.out
            by_cases e : j = n1
            · have e2 : n1 + 1 = n := by omega
              simp [e, e2]
            · have e2 : ¬ j + 1 = n := by omega
              have e3 : (j : Int) ≠ (n1 : Int) := by omega
              simp [e2, e3]
          have hjl : R.length ≤ 4 := by have := hSj.hl; omega
          have hj5 := hSj.in5
          obtain ⟨l, hl⟩ : ∃ l, R.length = l := ⟨_, rfl⟩
          have HRl := hid hl
          rw [hl] at hcj hij
          have kj := HLr.out.cell hcj
          have HIj := hid (hij.later HLr.out)
          have HQ := hid (bool_as9 (o := some ls) (z := ls) (t := true) (by have h := implIsFundamental_any (.slice rj l qj) R α β wr HIj.out; rw [show fundAns R α β = some ls by unfold fundAns; rw [if_pos (by rw [hSj.given, hSj.sol]; rfl), hlj]] at h; exact h) rfl rfl)
          have HSJ := hid hSj
          have HRR := hid hR
          have HJL := hid hjl
          have HJ5 := hid hj5
          clear hSj hlj hcj hij hls hl hR hjl hj5
          go_wp2_with fail
          refine HQ.out.mono ?_
          rintro e w8 ⟨rfl, hL8⟩
          have HL8 := hid hL8
          clear hL8 HQ
          have HVS := hid (fun p : LaterH w8 => vSolves_yes (.slice rj l qj) R α β p.now HSJ.out (HIj.out.later (HL8.out.trans p.later)))
          have HS1 := hid (fun p : LaterH w8 => ((vSumH_any (.slice rj l qj) R p.now HJL.out HJ5.out (HIj.out.later (HL8.out.trans p.later))).mono fun e w' ⟨he, hw⟩ => (⟨he, by rw [← hw]; exact Later.refl _⟩ : e = Ending.returned (.int .i64 (sumL R)) ∧ Later p.now w')))
          by_cases h0j : 0 < j
          · obtain ⟨i, hi⟩ : ∃ i, j = i + 1 := ⟨j - 1, by omega⟩
            have hwi : IntKind.i64.wrap ((j : Int) - 1) = (i : Int) := by rw [wrapQ (by omega)]; omega
            have hiI : (i : Int) < (n : Int) := by omega
            have hi0 : (0 : Int) ≤ (i : Int) := by omega
            obtain ⟨hSi, _⟩ := HIS.out i (by omega)
            have hsum := HFALL.out i (by omega)
            rw [← hi, HRR.out] at hsum
            obtain ⟨ad', ri, qi, e1, hci, _, hii⟩ := HR2.out.2 i (by rw [HNn.out]; omega)
            simp only [Option.some.injEq] at e1
            subst e1
            obtain ⟨R', hR'⟩ : ∃ R, L.getD i [] = R := ⟨_, rfl⟩
            rw [hR'] at hSi hci hii hsum
            have hil : R'.length ≤ 4 := by have := hSi.hl; omega
            have hi5 := hSi.in5
            have HS2 := hid (fun p : LaterH w8 => ((vSumH_any _ R' p.now hil hi5 (hii.later (HLr.out.trans (HL8.out.trans p.later)))).mono fun e w' ⟨he, hw⟩ => (⟨he, by rw [← hw]; exact Later.refl _⟩ : e = Ending.returned (.int .i64 (sumL R')) ∧ Later p.now w')))
            obtain ⟨l2, hl2⟩ : ∃ l, R'.length = l := ⟨_, rfl⟩
            rw [hl2] at hci HS2
            obtain ⟨A, hA⟩ : ∃ X, sumL R = X := ⟨_, rfl⟩
            obtain ⟨B, hB⟩ : ∃ X, sumL R' = X := ⟨_, rfl⟩
            rw [hA] at hsum HS1
            rw [hB] at hsum HS2
            have hBA : ¬ B ≤ A := by omega
            have kc : ∀ p : LaterH w8, p.now.cell? (ad.add i) = some (.slice ri l2 qi) := fun p => p.later.cell (HL8.out.cell (HLr.out.cell hci))
            have hd : decide (0 < j) = true := decide_eq_true h0j
            have hdA : decide (B ≤ A) = false := decide_eq_false hBA
            clear hSi hci hii hsum hil hi5 hl2 hA hB hR' hi kj h0j hBA
            go_wp2_with fail
            refine wp_region_laterG (by kernel_rfl) (by kernel_rfl) ?_
            repeat
              with_reducible refine wpQuiet_step (fun K hK => ?_)
              go_simp
              first
                | (with_reducible refine hK _ ?_; clear hK K)
                | (apply Exists.intro
                   refine ⟨fun _ => ?_, hK _ ?_⟩
                   (first
                     | (go_at_call 14; with_reducible exact Calls.laterH _ (HVS.out _))
                     | (go_at_call 15; first | (with_reducible exact Calls.laterH _ (HS1.out _)) | (with_reducible exact Calls.laterH _ (HS2.out _))))
                   clear hK K)
            with_reducible refine wpQuiet_nil ?_
            intro w9 hw'
            obtain ⟨⟨wq, hLq⟩, hw''⟩ := hw'
            subst hw''
            have HLq := hid (HLr.out.trans (HL8.out.trans hLq))
            clear hLq kc HVS HS1 HS2
            go_wp2_with fail
            go_roundw
            case rel => exact ⟨j + 1, hlt, by go_num, HLq.out⟩
            case measure => simp [intOf]; omega
          · have hd : decide (0 < j) = false := decide_eq_false h0j
            clear kj h0j
            go_wp2_with fail
            refine wp_region_laterG (by kernel_rfl) (by kernel_rfl) ?_
            repeat
              with_reducible refine wpQuiet_step (fun K hK => ?_)
              go_simp
              first
                | (with_reducible refine hK _ ?_; clear hK K)
                | (apply Exists.intro
                   refine ⟨fun _ => ?_, hK _ ?_⟩
                   (first
                     | (go_at_call 14; with_reducible exact Calls.laterH _ (HVS.out _))
                     | (go_at_call 15; with_reducible exact Calls.laterH _ (HS1.out _)))
                   clear hK K)
            with_reducible refine wpQuiet_nil ?_
            intro w9 hw'
            obtain ⟨⟨wq, hLq⟩, hw''⟩ := hw'
            subst hw''
            have HLq := hid (HLr.out.trans (HL8.out.trans hLq))
            clear hLq HVS HS1
            go_wp2_with fail
            go_roundw
            case rel => exact ⟨j + 1, hlt, by go_num, HLq.out⟩
            case measure => simp [intOf]; omega
        · have hge : ¬ (j : Int) < (n : Int) := by omega
          by_cases h40 : (40 : Int) < (m : Int)
          · go_wp2_with fail
            go_ret
            exact ⟨rfl, HL1.out.trans (HL7.out.trans HLr.out)⟩
          · have HCl := hid (ints_asG (o := some zs) (z := zs) (t := true) (by have h := implClimbHurwitz_any (.slice a4 k c4) (.slice a5 m c5) F α β U wr (HI4.out.later HLr.out) (HI5.out.later HLr.out); rw [HBACK.out (by have := HME.out; have := HNE.out; omega)] at h; exact h) rfl rfl)
            rw [HN.out] at HCl
            go_wp2_with fail
            refine HCl.out.mono ?_
            rintro e w8 ⟨a8, c8, rfl, hi8, _, hL8⟩
            have HV := hid (vSame_same (.slice a8 N c8) (.slice p1 N c1) zs w8 hi8 (HI.out.later (HL7.out.trans (HLr.out.trans hL8))))
            have HL8 := hid hL8
            clear hL8 hi8
            go_wp2_with fail
            refine HV.out.mono ?_
            rintro e w9 ⟨rfl, n9, rfl⟩
            go_wp2_with fail
            go_ret
            exact ⟨rfl, HL1.out.trans (HL7.out.trans (HLr.out.trans (HL8.out.trans (Later.drewN _ _))))⟩
  · go_wp2_with fail
    go_ret
    exact ⟨rfl, Later.refl _⟩
end Go.Proofs.Ytdahhcigphhfdad
