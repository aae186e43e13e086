/- The walk of the law FnAllHurwitz. -/
import Derived.Test.YtoaopmafokoaoaaHuAl
import Derived.Test.YtoaopmafokoaoaaCuSe
import Derived.Test.YtoaopmafokoaoaaHuSq
import Derived.Test.YtoaopmafokoaoaaHuFyz
import Derived.Test.YtoaopmafokoaoaaHuDij
namespace Go.Proofs.Ytoaopmafokoaoaa
open Go.RowKit

set_option maxRecDepth 100000 in
set_option maxHeartbeats 8000000 in
theorem lawAllHurwitz_walk (u v : Value) (xs ys : List Int) (w : World) (hx : BytesR w u xs) (hy : BytesR w v ys) :
    Calls Try.prog 4 #[u, v] w fun e w' => e = .returned (.bool true) ∧ Later w w' := by
  have HX := hid hx
  have HY := hid hy
  clear hx hy
  go_enter Try.func4, Try.ntmps4
  go_wp2_with fail
  refine (big_any u v xs ys w HX.out HY.out).mono ?_
  rintro e w0 ⟨⟨b, rfl, _⟩, rfl⟩
  cases b
  · go_wp2_with fail
    refine (drawSolutionsUpTo_any u xs w HX.out).mono ?_
    rintro e w1 ⟨parts, α, β, most, rfl, hL1⟩
    have HL1 := hid hL1
    clear hL1
    obtain ⟨o1, ho1⟩ : ∃ o, solsAns parts α β most = o := ⟨_, rfl⟩
    obtain ⟨o2, ho2⟩ : ∃ o, fundsAns parts α β most = o := ⟨_, rfl⟩
    have hlaw := all_law parts α β most
    rw [ho1, ho2] at hlaw
    obtain ⟨t, ht1⟩ : ∃ t, o1.isSome = t := ⟨_, rfl⟩
    have ht2 : o2.isSome = t := by
      rw [← ht1]
      rcases hlaw with ⟨rfl, rfl⟩ | ⟨L, rfl, rfl, _⟩ <;> rfl
    obtain ⟨L, hL⟩ : ∃ r, o1.getD [] = r := ⟨_, rfl⟩
    obtain ⟨K, hK⟩ : ∃ r, o2.getD [] = r := ⟨_, rfl⟩
    obtain ⟨n, hn⟩ : ∃ N, L.length = N := ⟨_, rfl⟩
    obtain ⟨q, hq⟩ : ∃ N, K.length = N := ⟨_, rfl⟩
    have HA := hid (fun w0 => rows_asG (by have h := implSolutionsUpTo_any parts α β most w0; rw [ho1] at h; exact h) hL ht1)
    have HB := hid (fun w0 => rows_asG (by have h := specSolutionsUpTo_any parts α β most w0; rw [ho1] at h; exact h) hL ht1)
    have HC := hid (fun w0 => rows_asG (by have h := implFundamentalsUpTo_any parts α β most w0; rw [ho2] at h; exact h) hK ht2)
    have HD := hid (fun w0 => rows_asG (by have h := specFundamentalsUpTo_any parts α β most w0; rw [ho2] at h; exact h) hK ht2)
    rw [hn] at HA HB
    rw [hq] at HC HD
    have HFACT := hid (show t = true → n ≤ 500 ∧ q ≤ 500 ∧ (∀ S ∈ K, S ∈ L) ∧ (∀ j, j < n → Sol (L.getD j []) α β ∧ (L.getD j []).getD 0 0 ≤ most ∧ ((L.getD j []).length : Int) = parts ∧ fundL α (L.getD j []) ∈ K ∧ (0 < j → befL (L.getD (j - 1) []) (L.getD j []) = true)) by
      intro h
      rw [← ht1] at h
      rcases hlaw with ⟨h1, _⟩ | ⟨L', h1, h2, h3, h4⟩
      · rw [h1] at h; cases h
      · rw [h1] at hL
        rw [h2] at hK
        simp only [Option.getD_some] at hL hK
        subst hL
        rw [hK, hn] at h4
        rw [hn] at h3
        have hqn : K.length ≤ n := by rw [← hK, ← hn]; exact List.length_filter_le _ _
        exact ⟨h3, by omega, fun S hS => by rw [← hK] at hS; exact (List.mem_filter.1 hS).1, h4⟩)
    have HNn := hid hn
    have HQ := hid hq
    have h1 : (t != t) = false := by simp
    clear ho1 ho2 hlaw ht1 ht2 hL hK hn hq
    go_wp2_with fail
    refine (HA.out _).mono ?_
    rintro e w2 ⟨a2, c2, rfl, hr2, hL2⟩
    have HR2 := hid hr2
    have HL2 := hid hL2
    clear hr2 hL2
    go_wp2_with fail
    refine (HB.out _).mono ?_
    rintro e w3 ⟨a3, c3, rfl, hr3, hL3⟩
    have HR3 := hid hr3
    have HL3 := hid hL3
    clear hr3 hL3
    go_wp2_with fail
    refine (HC.out _).mono ?_
    rintro e w4 ⟨a4, c4, rfl, hr4, hL4⟩
    have HR4 := hid hr4
    have HL4 := hid hL4
    clear hr4 hL4
    go_wp2_with fail
    refine (HD.out _).mono ?_
    rintro e w5 ⟨a5, c5, rfl, hr5, hL5⟩
    have HR2 := hid (HR2.out.later (HL3.out.trans (HL4.out.trans hL5)))
    have HR4 := hid (HR4.out.later hL5)
    have HLA := hid (HL2.out.trans (HL3.out.trans (HL4.out.trans hL5)))
    have HV1 := hid (vSameLists_same (.slice a2 n c2) (.slice a3 n c3) L w5 (by have h := HR2.out.1; rw [HNn.out] at h; exact h) (by have h := (HR3.out.later (HL4.out.trans hL5)).1; rw [HNn.out] at h; exact h))
    have HR5 := hid hr5
    have HV2 := hid (fun w' (h : Later w5 w') => vSameLists_same (.slice a4 q c4) (.slice a5 q c5) K w' (by have h := (HR4.out.later h).1; rw [HQ.out] at h; exact h) (by have h := (HR5.out.later h).1; rw [HQ.out] at h; exact h))
    clear hr5 hL5 HR3 HL2 HL3 HL4 HA HB HC HD
    go_upto_region 8 with fail
    go_cut [98] (fun s wx => s = .bool false ∧ Later w5 wx)
    case first =>
      as_aux_lemma =>
      go_wp2_with fail
      refine HV1.out.mono ?_
      rintro e w10 ⟨rfl, n10, rfl⟩
      go_wp2_with fail
      refine (HV2.out _ (Later.drewN _ _)).mono ?_
      rintro e w11 ⟨rfl, n11, rfl⟩
      go_wp2_with fail
      go_meet
      case rel => exact ⟨rfl, by first | exact Later.drewN _ _ | exact (Later.drewN _ _).trans (Later.drewN _ _)⟩
    case rest =>
    as_aux_lemma =>
    obtain ⟨rfl, hLc⟩ := hcut
    have HR2 := hid (HR2.out.later hLc)
    have HR4 := hid (HR4.out.later hLc)
    have HLA := hid (HL1.out.trans (HLA.out.trans hLc))
    clear hLc HV1 HV2 HR5 HL1
    go_wp2_with fail
    refine (drawFactorsFor_any v ys _ (HY.out.later HLA.out)).mono ?_
    rintro e w6 ⟨p, d, bound, rfl, hL6⟩
    have HR2 := hid (HR2.out.later hL6)
    have HR4 := hid (HR4.out.later hL6)
    have HL6 := hid (HLA.out.trans hL6)
    clear hL6
    obtain ⟨o3, ho3⟩ : ∃ o, facsAns p d bound = o := ⟨_, rfl⟩
    have hfac := facs_law p d bound
    rw [ho3] at hfac
    obtain ⟨t3, ht3⟩ : ∃ t, o3.isSome = t := ⟨_, rfl⟩
    obtain ⟨V, hV⟩ : ∃ r, o3.getD [] = r := ⟨_, rfl⟩
    obtain ⟨m, hm⟩ : ∃ N, V.length = N := ⟨_, rfl⟩
    have HE := hid (fun w0 => ints_asG (by have h := implFactorsFor_any p d bound w0; rw [ho3] at h; exact h) hV ht3)
    have HF := hid (fun w0 => ints_asG (by have h := specFactorsFor_any p d bound w0; rw [ho3] at h; exact h) hV ht3)
    rw [hm] at HE HF
    rw [hV] at hfac
    have HFAC := hid hfac
    have HM := hid hm
    have h3 : (t3 != t3) = false := by simp
    clear ho3 hfac ht3 hV hm
    go_wp2_with fail
    refine (HE.out _).mono ?_
    rintro e w7 ⟨a7, c7, rfl, hi7, _, hL7⟩
    have HI7 := hid hi7
    have HL7 := hid hL7
    clear hi7 hL7
    go_wp2_with fail
    refine (HF.out _).mono ?_
    rintro e w8 ⟨a8, c8, rfl, hi8, _, hL8⟩
    have HI7 := hid (HI7.out.later hL8)
    have HR2 := hid (HR2.out.later (HL7.out.trans hL8))
    have HR4 := hid (HR4.out.later (HL7.out.trans hL8))
    have HLA := hid (HL6.out.trans (HL7.out.trans hL8))
    have HV := hid (vSame_same (.slice a7 m c7) (.slice a8 m c8) V w8 HI7.out hi8)
    clear hi8 hL8 HL6 HL7 HE HF
    go_upto_region 13 with fail
    go_cut [127] (fun s wx => s = .bool false ∧ Later w8 wx)
    case first =>
      as_aux_lemma =>
      go_wp2_with fail
      refine HV.out.mono ?_
      rintro e w10 ⟨rfl, n10, rfl⟩
      go_wp2_with fail
      go_meet
      case rel => exact ⟨rfl, Later.drewN _ _⟩
    case rest =>
    as_aux_lemma =>
    obtain ⟨rfl, hLc⟩ := hcut
    have HR2 := hid (HR2.out.later hLc)
    have HR4 := hid (HR4.out.later hLc)
    have HI7 := hid (HI7.out.later hLc)
    have HLA := hid (HLA.out.trans hLc)
    have hmb : m ≤ 9223372036854775807 := by have h := HI7.out; obtain ⟨_, _, _, h, _⟩ := h; rw [HM.out] at h; exact h
    clear hLc HV h3
    go_wp2_with fail
    go_loopw [130] (fun i wr => ∃ j : Nat, j ≤ m ∧ i = .int .i64 j ∧ Later wc wr) (fun i _ => m - (intOf i).toNat)
    case atStart => exact ⟨0, Nat.zero_le _, rfl, Later.refl _⟩
    case round =>
      obtain ⟨j, hj, rfl, hLr⟩ := hrel
      have HLr := hid hLr
      clear hLr
      by_cases hlt : j < m
      · as_aux_lemma =>
        have hltI : (j : Int) < (m : Int) := by omega
        obtain ⟨_, _, e0, _, hcs⟩ := HI7.out
        simp only [Value.slice.injEq] at e0
        obtain ⟨rfl, hl', rfl⟩ := e0
        obtain ⟨vd, rfl, hcv⟩ := hcs j (by rw [HM.out]; exact hlt)
        have hf := HFAC.out (V.getD j 0) (by rw [List.getD_eq_getElem?_getD, List.getElem?_eq_getElem (by rw [HM.out]; exact hlt), Option.getD_some]; exact List.getElem_mem _)
        obtain ⟨f, hfe⟩ : ∃ f, V.getD j 0 = f := ⟨_, rfl⟩
        rw [hfe] at hf hcv
        have kc := HLr.out.cell hcv
        clear hl' hcs hfe hcv
        by_cases hd : d = 0
        · have hfp := hf hd
          have hdp : decide (p < f) = false := decide_eq_false (by omega)
          have hdp' : ¬ p < f := by omega
          subst hd
          clear hf
          go_wp2_with fail
          go_roundw
          case rel => exact ⟨j + 1, hlt, by go_num, HLr.out⟩
          case measure => simp [intOf]; omega
        · have hd0 : (d == 0) = false := by simp [hd]
          clear hf hd
          go_wp2_with fail
          go_roundw
          case rel => exact ⟨j + 1, hlt, by go_num, HLr.out⟩
          case measure => simp [intOf]; omega
      · as_aux_lemma =>
        have hge : ¬ (j : Int) < (m : Int) := by omega
        have HR2 := hid (HR2.out.later HLr.out)
        have HR4 := hid (HR4.out.later HLr.out)
        have HLA := hid (HLA.out.trans HLr.out)
        clear HI7 HLr
        cases t
        · go_wp2_with fail
          go_ret
          exact ⟨rfl, HLA.out⟩
        · obtain ⟨hn500, hq500, hsub, hall⟩ := HFACT.out rfl
          have HSUB := hid hsub
          have HALL := hid hall
          clear hsub hall
          rename World => W0
          go_wp2_with fail
          go_loopw [146] (fun i wr => ∃ j : Nat, j ≤ n ∧ i = .int .i64 j ∧ Later W0 wr) (fun i _ => n - (intOf i).toNat)
          case atStart => exact ⟨0, Nat.zero_le _, rfl, Later.refl _⟩
          case round =>
            obtain ⟨j, hj, rfl, hLr⟩ := hrel
            have HLr := hid hLr
            clear hLr
            by_cases hlt : j < n
            · as_aux_lemma =>
              have hltI : (j : Int) < (n : Int) := by omega
              obtain ⟨hSj, hmj, hlj, hfj, hbj⟩ := HALL.out j hlt
              obtain ⟨ad, rj, qj, e1, hcell, _, hij⟩ := HR2.out.2 j (by rw [HNn.out]; exact hlt)
              subst e1
              obtain ⟨R, hR⟩ : ∃ R, L.getD j [] = R := ⟨_, rfl⟩
              rw [hR] at hSj hmj hlj hfj hbj hcell hij
              obtain ⟨l, hl⟩ : ∃ l, R.length = l := ⟨_, rfl⟩
              have hl0 : 0 < l := by have := hSj.hl; omega
              have HRl := hid hl
              rw [hl] at hcell hij hlj
              obtain ⟨_, _, e0, _, hcs⟩ := id hij
              simp only [Value.slice.injEq] at e0
              obtain ⟨rfl, hl', rfl⟩ := e0
              obtain ⟨rd, rfl, hc0⟩ := hcs 0 (by rw [hl]; exact hl0)
              rw [show rd.add 0 = rd by simp [Addr.add]] at hc0
              obtain ⟨X, hX⟩ : ∃ X, R.getD 0 0 = X := ⟨_, rfl⟩
              rw [hX] at hmj hc0
              have kj := HLr.out.cell hcell
              have HIj := hid (hij.later HLr.out)
              have HSJ := hid hSj
              have HLJ := hid hlj
              have HBJ := hid hbj
              have hA : decide (most < X) = false := decide_eq_false (by omega)
              have hA' : ¬ most < X := by omega
              have k0 := HLr.out.cell hc0
              have hl0I : (0 : Int) < (l : Int) := by omega
              obtain ⟨F, hF⟩ : ∃ F, fundL α R = F := ⟨_, rfl⟩
              rw [hF] at hfj
              have HFJ := hid hfj
              obtain ⟨lf, hlf⟩ : ∃ l, F.length = l := ⟨_, rfl⟩
              have HQF := hid (ints_asG (o := some F) (z := F) (t := true) (by have h := implFundamentalOf_any (.slice (some rd) l qj) R α β _ HIj.out; rw [show fundLAns R α β = some F by unfold fundLAns; rw [if_pos (by rw [HSJ.out.given, HSJ.out.sol]; rfl)]; exact congrArg some hF] at h; exact h) rfl rfl)
              rw [hlf] at HQF
              clear hSj hmj hlj hfj hbj hcell hij hl hX hcs hc0 hl' hF hlf hR
              go_wp2_with fail
              refine HQF.out.mono ?_
              rintro e w9 ⟨a9, c9, rfl, hi9, _, hL9⟩
              have HL9 := hid hL9
              have hVH := vHas_memG a4 c4 (.slice a9 lf c9) K F w9 (HR4.out.later (HLr.out.trans hL9)) hi9 HFJ.out (by rw [HQ.out]; omega)
              rw [HQ.out] at hVH
              have HVH := hid hVH
              clear hVH
              replace k0 := hL9.cell k0
              clear hi9 hL9 HQF kj
              have hlp : ((l : Int) != parts) = false := by rw [HLJ.out]; simp
              by_cases h0j : 0 < j
              · obtain ⟨i, hi⟩ : ∃ i, j = i + 1 := ⟨j - 1, by omega⟩
                have hwi : IntKind.i64.wrap ((j : Int) - 1) = (i : Int) := by rw [wrapQ (by omega)]; omega
                have hiI : (i : Int) < (n : Int) := by omega
                have hi0 : (0 : Int) ≤ (i : Int) := by omega
                obtain ⟨hSi, _, hli, _⟩ := HALL.out i (by omega)
                have hbe := HBJ.out h0j
                rw [show j - 1 = i by omega] at hbe
                obtain ⟨ad', ri, qi, e1, hci, _, hii⟩ := HR2.out.2 i (by rw [HNn.out]; omega)
                simp only [Option.some.injEq] at e1
                subst e1
                obtain ⟨R', hR'⟩ : ∃ R, L.getD i [] = R := ⟨_, rfl⟩
                rw [hR'] at hSi hci hii hbe hli
                have hll : R'.length = R.length := by have h1 := HLJ.out; rw [HRl.out]; omega
                obtain ⟨d2, hd1, hd2, hd3⟩ := befL_place hll hbe
                have hd4 : d2 < R.length := by omega
                obtain ⟨l2, hl2⟩ : ∃ l, R'.length = l := ⟨_, rfl⟩
                rw [hl2] at hci
                have HII := hid hii
                rw [hl2] at HII
                have HD := hid (And.intro hd1 (And.intro hd2 (And.intro hd3 hd4)))
                have hd : decide (0 < j) = true := decide_eq_true h0j
                have hdI : decide ((0 : Int) < (j : Int)) = true := decide_eq_true (by omega)
                have kc := HL9.out.cell (HLr.out.cell hci)
                clear hSi hii hbe hli hl2 hR' hi hd1 hd2 hd3 hd4 hll hci
                go_wp2_with fail
                refine HVH.out.mono ?_
                rintro e w10 ⟨rfl, n10, rfl⟩
                replace k0 := (Later.drewN w9 n10).cell k0
                replace kc := (Later.drewN w9 n10).cell kc
                go_wp2_with fail
                refine (vBefore_lex _ (.slice (some rd) l qj) R' R _ d2 (HII.out.later (HLr.out.trans (HL9.out.trans (Later.drewN _ _)))) (HIj.out.later (HL9.out.trans (Later.drewN _ _))) HD.out.1 HD.out.2.2.2 HD.out.2.1 HD.out.2.2.1).mono ?_
                rintro e w11 ⟨rfl, n11, rfl⟩
                go_wp2_with fail
                go_roundw
                case rel => exact ⟨j + 1, hlt, by go_num, HLr.out.trans (HL9.out.trans (by first | exact Later.drewN _ _ | exact (Later.drewN _ _).trans (Later.drewN _ _)))⟩
                case measure => simp [intOf]; omega
              · have hd : decide (0 < j) = false := decide_eq_false h0j
                have hdI : decide ((0 : Int) < (j : Int)) = false := decide_eq_false (by omega)
                go_wp2_with fail
                refine HVH.out.mono ?_
                rintro e w10 ⟨rfl, n10, rfl⟩
                replace k0 := (Later.drewN w9 n10).cell k0
                go_wp2_with fail
                go_roundw
                case rel => exact ⟨j + 1, hlt, by go_num, HLr.out.trans (HL9.out.trans (Later.drewN _ _))⟩
                case measure => simp [intOf]; omega
            · as_aux_lemma =>
              have hge : ¬ (j : Int) < (n : Int) := by omega
              have HR2 := hid (HR2.out.later HLr.out)
              have HR4 := hid (HR4.out.later HLr.out)
              have HLA := hid (HLA.out.trans HLr.out)
              clear HLr HALL
              rename World => W1
              go_wp2_with fail
              go_loopw [196] (fun i wr => ∃ j : Nat, j ≤ q ∧ i = .int .i64 j ∧ Later W1 wr) (fun i _ => q - (intOf i).toNat)
              case atStart => exact ⟨0, Nat.zero_le _, rfl, Later.refl _⟩
              case round =>
                obtain ⟨j, hj, rfl, hLr⟩ := hrel
                have HLr := hid hLr
                clear hLr
                by_cases hlt : j < q
                · have hltI : (j : Int) < (q : Int) := by omega
                  obtain ⟨ad, rj, qj, e1, hcell, _, hij⟩ := HR4.out.2 j (by rw [HQ.out]; exact hlt)
                  subst e1
                  have hS := HSUB.out _ (at_memG (L := K) (j := j) (by rw [HQ.out]; exact hlt))
                  obtain ⟨R, hR⟩ : ∃ R, K.getD j [] = R := ⟨_, rfl⟩
                  rw [hR] at hcell hij hS
                  obtain ⟨l, hl⟩ : ∃ l, R.length = l := ⟨_, rfl⟩
                  rw [hl] at hcell hij
                  have kj := HLr.out.cell hcell
                  have hVH := vHas_memG a2 c2 (.slice rj l qj) L R wr (HR2.out.later HLr.out) (hij.later HLr.out) hS (by rw [HNn.out]; omega)
                  rw [HNn.out] at hVH
                  have HVH := hid hVH
                  clear hVH
                  clear hcell hij hS hR hl
                  go_wp2_with fail
                  refine HVH.out.mono ?_
                  rintro e w10 ⟨rfl, n10, rfl⟩
                  go_wp2_with fail
                  go_roundw
                  case rel => exact ⟨j + 1, hlt, by go_num, HLr.out.trans (Later.drewN _ _)⟩
                  case measure => simp [intOf]; omega
                · have hge : ¬ (j : Int) < (q : Int) := by omega
                  go_wp2_with fail
                  go_ret
                  exact ⟨rfl, HLA.out.trans HLr.out⟩
  · go_wp2_with fail
    go_ret
    exact ⟨rfl, Later.refl _⟩
end Go.Proofs.Ytoaopmafokoaoaa
