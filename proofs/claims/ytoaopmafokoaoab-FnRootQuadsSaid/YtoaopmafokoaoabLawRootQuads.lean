/- The walk of the law FnRootQuads. -/
import Derived.Test.YtoaopmafokoaoabRqSa
namespace Go.Proofs.Ytoaopmafokoaoab
open Go.RowKit

set_option maxRecDepth 100000 in
set_option maxHeartbeats 8000000 in
theorem lawRootQuads_walk (u v : Value) (xs ys : List Int) (w : World) (hx : BytesR w u xs) (hy : BytesR w v ys) :
    Calls Try.prog 5 #[u, v] w fun e w' => e = .returned (.bool true) ∧ Later w w' := by
  have HX := hid hx
  have HY := hid hy
  clear hx hy
  go_enter Try.func5, Try.ntmps5
  go_wp2_with fail
  refine (big_any u v xs ys w HX.out HY.out).mono ?_
  rintro e w0 ⟨⟨b, rfl, _⟩, rfl⟩
  cases b
  · go_wp2_with fail
    refine (drawRootsWith_any u xs w HX.out).mono ?_
    rintro e w1 ⟨n, rfl, hL1⟩
    have HL1 := hid hL1
    clear hL1
    obtain ⟨o, ho⟩ : ∃ o, rootsAns n = o := ⟨_, rfl⟩
    obtain ⟨t, ht⟩ : ∃ t, o.isSome = t := ⟨_, rfl⟩
    obtain ⟨L, hL⟩ : ∃ r, o.getD [] = r := ⟨_, rfl⟩
    obtain ⟨m, hm⟩ : ∃ N, L.length = N := ⟨_, rfl⟩
    have HA := hid (fun w0 => rows_asG (by have h := implRootsWith_any n w0; rw [ho] at h; exact h) hL ht)
    have HB := hid (fun w0 => rows_asG (by have h := specRootsWith_any n w0; rw [ho] at h; exact h) hL ht)
    rw [hm] at HA HB
    have HT := hid (show t = true → (1 ≤ n ∧ n ≤ 30) ∧ L = rootsN n by
      intro h
      rw [← ht, ← ho] at h
      unfold rootsAns at h
      split at h
      · rename_i hc
        refine ⟨within130.1 hc, ?_⟩
        rw [← hL, ← ho]
        unfold rootsAns
        rw [if_pos hc]; rfl
      · cases h)
    have HM0 := hid (show t = false → m = 0 by
      intro h
      rw [← ht] at h
      cases o with
      | none => rw [← hm, ← hL]; rfl
      | some _ => cases h)
    have HM := hid hm
    have htt : (t != t) = false := by simp
    clear ho ht hL hm
    go_wp2_with fail
    refine (HA.out _).mono ?_
    rintro e w2 ⟨a2, c2, rfl, hr2, hL2⟩
    have HR := hid hr2
    have HL2 := hid hL2
    clear hr2 hL2
    go_wp2_with fail
    refine (HB.out _).mono ?_
    rintro e w3 ⟨a3, c3, rfl, hr3, hL3⟩
    have HR := hid (HR.out.later hL3)
    have HLA := hid (HL1.out.trans (HL2.out.trans hL3))
    have HV := hid (dLists_same (.slice a2 m c2) (.slice a3 m c3) L w3 (by have h := HR.out.1; rw [HM.out] at h; exact h) (by have h := hr3.1; rw [HM.out] at h; exact h))
    clear hr3 hL3 HA HB HL1 HL2
    go_wp2_with fail
    refine (drewLaterR HV.out (Later.refl _)).mono ?_
    rintro e W ⟨rfl, hLc⟩
    have HR := hid (HR.out.later hLc)
    have HLA := hid (HLA.out.trans hLc)
    have hmb : m ≤ 1000000 := by
      cases t
      · rw [HM0.out rfl]; omega
      · obtain ⟨h1, h2⟩ := HT.out rfl
        have := rootsN_len h1
        rw [← h2, HM.out] at this
        omega
    have HMB := hid hmb
    clear hLc HV htt hmb
    go_upto_region 8 with fail
    go_cut [68] (fun s wx => s = .bool false ∧ Later W wx)
    case first =>
      as_aux_lemma =>
      cases t
      · go_wp2_with fail
        go_meet
        case rel => exact ⟨rfl, Later.refl _⟩
      · have hm0 : 0 < m := by
          obtain ⟨h1, h2⟩ := HT.out rfl
          have := rootsN_some h1
          rw [← h2, HM.out] at this
          exact this
        have hm1 : ((m : Int) == 0) = false := by
          simp only [beq_eq_false_iff_ne]; omega
        go_wp2_with fail
        go_meet
        case rel => exact ⟨rfl, Later.refl _⟩
    case rest =>
    as_aux_lemma =>
    obtain ⟨rfl, hLc⟩ := hcut
    have HR := hid (HR.out.later hLc)
    have HLA := hid (HLA.out.trans hLc)
    have hmb := HMB.out
    have HALL := hid (show ∀ j, j < m → t = true ∧ (1 ≤ n ∧ n ≤ 30) ∧ (∃ b c d, L.getD j [] = [-n, b, c, d]) ∧ apB (L.getD j []) = true ∧ lastQ (L.getD j []) = true ∧ gcdL (L.getD j []) = 1 ∧ sortQ (L.getD j []) = L.getD j [] ∧ (0 < j → LexQ (L.getD (j - 1) []) (L.getD j [])) by
      intro j hj
      cases t
      · have := HM0.out rfl; omega
      · obtain ⟨h1, h2⟩ := HT.out rfl
        have hjl : j < (rootsN n).length := by rw [← h2, HM.out]; exact hj
        have hmem : L.getD j [] ∈ rootsN n := by
          rw [h2, List.getD_eq_getElem?_getD, List.getElem?_eq_getElem hjl, Option.getD_some]; exact List.getElem_mem _
        obtain ⟨b, c, d, e, ⟨g1, g2, g3⟩, _, _, _, g4⟩ := rootsN_out h1.1 hmem
        refine ⟨rfl, h1, ⟨b, c, d, e⟩, by rw [e]; exact g1, by rw [e]; exact g2, by rw [e]; exact g3, g4, fun h0 => ?_⟩
        have := List.pairwise_iff_getElem.1 (rootsN_sorted n) (j - 1) j (by omega) hjl (by omega)
        rw [h2, List.getD_eq_getElem?_getD, List.getD_eq_getElem?_getD, List.getElem?_eq_getElem (by omega), List.getElem?_eq_getElem hjl]
        exact this)
    clear hLc
    go_wp2_with fail
    go_loopw [71] (fun i wr => ∃ j : Nat, j ≤ m ∧ i = .int .i64 j ∧ Later wc wr) (fun i _ => m - (intOf i).toNat)
    case atStart => exact ⟨0, Nat.zero_le _, rfl, Later.refl _⟩
    case round =>
      obtain ⟨j, hj, rfl, hLr⟩ := hrel
      have HLr := hid hLr
      clear hLr
      by_cases hlt : j < m
      · as_aux_lemma =>
        have hltI : (j : Int) < (m : Int) := by omega
        obtain ⟨htr, hn30, hform, hg, hl, hgc, hso, hlex⟩ := HALL.out j hlt
        obtain ⟨ad, rj, qj, e1, hcell, _, hij⟩ := HR.out.2 j (by rw [HM.out]; exact hlt)
        subst e1
        obtain ⟨Q, hQ⟩ : ∃ R, L.getD j [] = R := ⟨_, rfl⟩
        rw [hQ] at hform hg hl hgc hso hlex hcell hij
        obtain ⟨l, hll⟩ : ∃ l, Q.length = l := ⟨_, rfl⟩
        have hl4 : l = 4 := by rw [← hll]; exact apB_hlen hg
        have HL4 := hid hl4
        have HLL := hid hll
        rw [hll] at hcell hij
        obtain ⟨_, _, e0, _, hcs⟩ := id hij
        simp only [Value.slice.injEq] at e0
        obtain ⟨rfl, hl', rfl⟩ := e0
        obtain ⟨rd, rfl, hc0⟩ := hcs 0 (by rw [hll]; omega)
        rw [show rd.add 0 = rd by simp [Addr.add]] at hc0
        obtain ⟨X, hX⟩ : ∃ X, -n = X := ⟨_, rfl⟩
        have hq0 : Q.getD 0 0 = X := by
          obtain ⟨b, c, d, e⟩ := hform
          rw [e]; exact hX
        rw [hq0] at hc0
        have hneg : IntKind.i64.wrap (-n) = X := by rw [wrapQ (by omega)]; exact hX
        have kj := HLr.out.cell hcell
        have k0 := HLr.out.cell hc0
        have HIj := hid (hij.later HLr.out)
        have HLEX := hid hlex
        have HQ0 := hid hq0
        have hl0I : (0 : Int) < (l : Int) := by omega
        have HQ1 := hid (fun w' (h : Later wr w') => bool_as9 (o := some true) (z := true) (t := true) (by have h := implIsRootQ_any (.slice (some rd) l qj) Q w' (HIj.out.later h); rw [show isRootAns Q = some true by unfold isRootAns; rw [if_pos hg, hl]] at h; exact h) rfl rfl)
        have HQ2 := hid (fun w' (h : Later wr w') => ints_asG (o := some Q) (z := Q) (t := true) (by have h := implRootQuad_any (.slice (some rd) l qj) Q w' (HIj.out.later h); rw [root_own hg hl hso] at h; exact h) rfl rfl)
        have HQ3 := hid (fun w' (h : Later wr w') => num_as9 (o := some 1) (z := 1) (t := true) (by have h := implScaleOf_any (.slice (some rd) l qj) Q w' (HIj.out.later h); rw [show scaleAns Q = some 1 by unfold scaleAns; rw [if_pos hg, hgc]] at h; exact h) rfl rfl)
        rw [hll] at HQ2
        have hXX : (X != X) = false := by simp
        clear htr hform hg hl hgc hso hlex hcell hij hll hcs hc0 hl' hX hQ hq0 hl4
        go_wp2_with fail
        refine (HQ1.out _ (Later.refl _)).mono ?_
        rintro e w4 ⟨rfl, hL4⟩
        have HL4w := hid hL4
        clear hL4 HQ1
        go_wp2_with fail
        refine (HQ2.out _ HL4w.out).mono ?_
        rintro e w5 ⟨a5, c5, rfl, hi5, _, hL5⟩
        have HI5 := hid hi5
        have HL5 := hid (HL4w.out.trans hL5)
        clear hi5 hL5 HL4w HQ2
        go_wp2_with fail
        refine (HQ3.out _ HL5.out).mono ?_
        rintro e w6 ⟨rfl, hL6⟩
        have HL6 := hid (HL5.out.trans hL6)
        have HV := hid (dSame_same (.slice a5 l c5) (.slice (some rd) l qj) Q w6 (HI5.out.later hL6) (HIj.out.later HL6.out))
        clear hL6 HL5 HQ3 HI5
        replace k0 := HL6.out.cell k0
        by_cases h0j : 0 < j
        · obtain ⟨i, hi⟩ : ∃ i, j = i + 1 := ⟨j - 1, by omega⟩
          have hwi : IntKind.i64.wrap ((j : Int) - 1) = (i : Int) := by rw [wrapQ (by omega)]; omega
          have hiI : (i : Int) < (m : Int) := by omega
          have hi0 : (0 : Int) ≤ (i : Int) := by omega
          obtain ⟨htr2, hn2, hformi, hgi, hrest2⟩ := HALL.out i (by omega)
          clear htr2 hn2 hrest2
          have hbe := HLEX.out h0j
          rw [show j - 1 = i by omega] at hbe
          obtain ⟨ad', ri, qi, e1, hci, _, hii⟩ := HR.out.2 i (by rw [HM.out]; omega)
          simp only [Option.some.injEq] at e1
          subst e1
          obtain ⟨R', hR'⟩ : ∃ R, L.getD i [] = R := ⟨_, rfl⟩
          rw [hR'] at hformi hgi hci hii hbe
          have h00 : R'.getD 0 0 = Q.getD 0 0 := by
            obtain ⟨b, c, d, e⟩ := hformi
            rw [e, HQ0.out, ← hneg, wrapQ (by omega)]; rfl
          obtain ⟨d2, hd1, hd2, hd3, hd4⟩ := lex_place hbe h00 (apB_hlen hgi) (by rw [HLL.out]; exact HL4.out)
          obtain ⟨l2, hl2⟩ : ∃ l, R'.length = l := ⟨_, rfl⟩
          rw [hl2] at hci
          have HII := hid hii
          rw [hl2] at HII
          have HD := hid (And.intro hd1 (And.intro hd2 (And.intro hd3 hd4)))
          have hd : decide (0 < j) = true := decide_eq_true h0j
          have hdI : decide ((0 : Int) < (j : Int)) = true := decide_eq_true (by omega)
          have kc := HL6.out.cell (HLr.out.cell hci)
          clear hformi hgi hii hbe hl2 hR' hi hd1 hd2 hd3 hd4 hci h00 kj
          go_wp2_with fail
          refine (drewLaterR HV.out (Later.refl _)).mono ?_
          rintro e w7 ⟨rfl, hL7⟩
          replace k0 := hL7.cell k0
          replace kc := hL7.cell kc
          have HL7 := hid (HL6.out.trans hL7)
          clear hL7 HV
          go_wp2_with fail
          refine (drewLaterR (dLess_lex _ (.slice (some rd) l qj) R' Q w7 d2 (HII.out.later (HLr.out.trans HL7.out)) (HIj.out.later HL7.out) HD.out.1 HD.out.2.1 HD.out.2.2.1 HD.out.2.2.2) HL7.out).mono ?_
          rintro e w8 ⟨rfl, hL8⟩
          have HL8 := hid hL8
          clear hL8
          go_wp2_with fail
          go_roundw
          case rel => exact ⟨j + 1, hlt, by go_num, HLr.out.trans HL8.out⟩
          case measure => simp [intOf]; omega
        · have hd : decide (0 < j) = false := decide_eq_false h0j
          have hdI : decide ((0 : Int) < (j : Int)) = false := decide_eq_false (by omega)
          clear kj
          go_wp2_with fail
          refine (drewLaterR HV.out (Later.refl _)).mono ?_
          rintro e w7 ⟨rfl, hL7⟩
          replace k0 := hL7.cell k0
          have HL7 := hid (HL6.out.trans hL7)
          clear hL7 HV
          go_wp2_with fail
          go_roundw
          case rel => exact ⟨j + 1, hlt, by go_num, HLr.out.trans HL7.out⟩
          case measure => simp [intOf]; omega
      · as_aux_lemma =>
        have hge : ¬ (j : Int) < (m : Int) := by omega
        have HR := hid (HR.out.later HLr.out)
        have HLA := hid (HLA.out.trans HLr.out)
        clear HLr HALL
        rename World => W0
        go_upto_region 19 with fail
        obtain ⟨ok6, hok6⟩ : ∃ b : Bool, (t && decide (n ≤ 6)) = b := ⟨_, rfl⟩
        have HOK := hid hok6
        go_cut [142] (fun s wx => s = .bool ok6 ∧ Later W0 wx)
        case first =>
          as_aux_lemma =>
          cases t
          · have hok : ok6 = false := by rw [← hok6]; rfl
            subst hok
            clear hok6
            go_wp2_with fail
            go_meet
            case rel => exact ⟨rfl, Later.refl _⟩
          · by_cases h6 : n ≤ 6
            · have hok : ok6 = true := by rw [← hok6]; simp [h6]
              subst hok
              have hd6 : decide (n ≤ 6) = true := decide_eq_true h6
              clear hok6
              go_wp2_with fail
              go_meet
              case rel => exact ⟨rfl, Later.refl _⟩
            · have hok : ok6 = false := by rw [← hok6]; simp [h6]
              subst hok
              have hd6 : decide (n ≤ 6) = false := decide_eq_false h6
              clear hok6
              go_wp2_with fail
              go_meet
              case rel => exact ⟨rfl, Later.refl _⟩
        case rest =>
        as_aux_lemma =>
        obtain ⟨rfl, hLc⟩ := hcut
        have HR := hid (HR.out.later hLc)
        have HLA := hid (HLA.out.trans hLc)
        clear hLc hok6
        go_upto_if 142 with fail
        go_cut [] (fun wx => Later wc wx)
        case first =>
          as_aux_lemma =>
          cases ok6
          · go_wp2_with fail
            go_meet
            case rel => exact Later.refl _
          · have htr : t = true := by
              have := HOK.out
              cases t
              · simp at this
              · rfl
            obtain ⟨hn30, hLn⟩ := HT.out htr
            have HN30 := hid hn30
            have HLN := hid hLn
            clear htr hLn
            obtain ⟨X, hX⟩ : ∃ X, -n = X := ⟨_, rfl⟩
            have hneg : IntKind.i64.wrap (-n) = X := by rw [wrapQ (by omega)]; exact hX
            have HXE := hid hX
            clear hX hn30
            go_wp2_with fail
            go_loopw [18, 19] (fun f b wr => ∃ x : Nat, x ≤ 60 ∧ f = .int .i64 ((gB n x).length : Nat) ∧ b = .int .i64 ((x : Int) + 1) ∧ Later wc wr) (fun _ b _ => 61 - (intOf b).toNat)
            case atStart => exact ⟨0, by omega, by rfl, by rfl, Later.refl _⟩
            case round =>
              obtain ⟨x, hx60, rfl, rfl, hLr⟩ := hrel
              have HLx := hid hLr
              clear hLr
              obtain ⟨bb, hbb⟩ : ∃ b : Int, (x : Int) + 1 = b := ⟨_, rfl⟩
              have HBB := hid hbb
              rw [hbb]
              by_cases hltb : bb ≤ 60
              · as_aux_lemma =>
                have hb1 : 1 ≤ bb := by omega
                have hwb : IntKind.i64.wrap (bb + 1) = bb + 1 := wrapQ (by omega)
                clear hbb
                rename World => Wb
                go_wp2_with fail
                go_loopw [18, 20] (fun f c wr => ∃ y : Nat, y ≤ 60 - x ∧ f = .int .i64 ((gB n x).length + (gC n bb y).length : Nat) ∧ c = .int .i64 (bb + (y : Int)) ∧ Later Wb wr) (fun _ c _ => 61 - (intOf c).toNat)
                case atStart => exact ⟨0, Nat.zero_le _, by rfl, by simp, Later.refl _⟩
                case round =>
                  obtain ⟨y, hy60, rfl, rfl, hLr⟩ := hrel
                  have HLy := hid hLr
                  clear hLr
                  obtain ⟨cc, hcc⟩ : ∃ c : Int, bb + (y : Int) = c := ⟨_, rfl⟩
                  have HCC := hid hcc
                  rw [hcc]
                  by_cases hltc : cc ≤ 60
                  · as_aux_lemma =>
                    have hc1 : bb ≤ cc := by omega
                    have hwc : IntKind.i64.wrap (cc + 1) = cc + 1 := wrapQ (by omega)
                    clear hcc
                    rename World => Wc
                    go_wp2_with fail
                    go_loopw [18, 21] (fun f d wr => ∃ z : Nat, (z : Int) ≤ 61 - cc ∧ f = .int .i64 ((gB n x).length + (gC n bb y).length + (gD n bb cc z).length : Nat) ∧ d = .int .i64 (cc + (z : Int)) ∧ Later Wc wr) (fun _ d _ => 61 - (intOf d).toNat)
                    case atStart => exact ⟨0, by omega, by rfl, by simp, Later.refl _⟩
                    case round =>
                      obtain ⟨z, hz60, rfl, rfl, hLr⟩ := hrel
                      have HLz := hid hLr
                      clear hLr
                      have hF : (gB n x).length + (gC n bb y).length + (gD n bb cc z).length ≤ 1000000 := by
                        have h1 := gB_len n x
                        have h2 := gC_len (n := n) hb1 y
                        have h3 := gD_len n bb cc z
                        omega
                      have hsucc := gD_succ n bb cc z
                      obtain ⟨F, hFe⟩ : ∃ F : Nat, (gB n x).length + (gC n bb y).length + (gD n bb cc z).length = F := ⟨_, rfl⟩
                      have HFE := hid hFe
                      have HSU := hid hsucc
                      rw [hFe] at hF ⊢
                      obtain ⟨dd, hdd⟩ : ∃ c : Int, cc + (z : Int) = c := ⟨_, rfl⟩
                      have HDD := hid hdd
                      rw [hdd]
                      by_cases hltd : dd ≤ 60
                      · have hd1 : cc ≤ dd := by omega
                        have hwd : IntKind.i64.wrap (dd + 1) = dd + 1 := wrapQ (by omega)
                        have hwF : IntKind.i64.wrap ((F : Int) + 1) = (F : Int) + 1 := wrapQ (by omega)
                        clear hFe hsucc hdd
                        obtain ⟨r, hr⟩ : ∃ r, RB n bb cc dd = r := ⟨_, rfl⟩
                        have HRR := hid hr
                        obtain ⟨o6, ho6⟩ : ∃ o, isRootAns [X, bb, cc, dd] = o := ⟨_, rfl⟩
                        obtain ⟨o7, ho7⟩ : ∃ o, scaleAns [X, bb, cc, dd] = o := ⟨_, rfl⟩
                        have hcase : (o6 = none ∧ o7 = none ∧ r = false) ∨ (∃ G, o6 = some false ∧ o7 = some G ∧ r = false) ∨ (∃ G, o6 = some true ∧ o7 = some G ∧ G ≠ 1 ∧ r = false) ∨ (o6 = some true ∧ o7 = some 1 ∧ r = true) := by
                          rw [← ho6, ← ho7, ← hr, ← HXE.out]
                          unfold isRootAns scaleAns RB
                          cases hg : apB [-n, bb, cc, dd]
                          · left; simp
                          · cases hl : lastQ [-n, bb, cc, dd]
                            · right; left; exact ⟨_, by simp, by first | (simp; done) | (simp; rfl), by simp⟩
                            · by_cases hG : gcdL [-n, bb, cc, dd] = 1
                              · right; right; right; simp [hG]
                              · right; right; left; exact ⟨_, by simp, by first | (simp; done) | (simp; rfl), hG, by simp [hG]⟩
                        have HI := hid (fun w' => (ownInts_litG w' 0 (Nat.zero_le _) [X, bb, cc, dd] (by simp)).ints)
                        clear hr
                        rcases hcase with ⟨h6, h7, hr⟩ | ⟨G, h6, h7, hr⟩ | ⟨G, h6, h7, hG, hr⟩ | ⟨h6, h7, hr⟩
                        · have HQ1 := hid (fun w' v (h : Ints w' v [X, bb, cc, dd]) => bool_as9 (o := none) (z := false) (t := false) (by have h := implIsRootQ_any v _ w' h; rw [ho6, h6] at h; exact h) rfl rfl)
                          have HQ2 := hid (fun w' v (h : Ints w' v [X, bb, cc, dd]) => num_as9 (o := none) (z := 0) (t := false) (by have h := implScaleOf_any v _ w' h; rw [ho7, h7] at h; exact h) rfl rfl)
                          have HRV := hid hr
                          skip
                          clear ho6 ho7 h6 h7 hr
                          go_wp2_with fail
                          refine (HQ1.out _ _ (HI.out _)).mono ?_
                          rintro e w6 ⟨rfl, hL6⟩
                          have HI6 := hid ((HI.out _).later hL6)
                          have HL6 := hid ((Later.alloc _ _).trans hL6)
                          clear hL6 HQ1
                          go_wp2_with fail
                          refine (HQ2.out _ _ HI6.out).mono ?_
                          rintro e w7 ⟨rfl, hL7⟩
                          have HL7 := hid (HL6.out.trans hL7)
                          clear hL7 HQ2
                          go_wp2_with fail
                          go_roundw
                          case rel => exact ⟨z + 1, by have := HDD.out; omega, by rw [HSU.out, HDD.out, HRR.out, HRV.out]; have := HFE.out; rw [if_neg (by simp), Nat.add_zero, this], by have := HDD.out; go_num, HLz.out.trans HL7.out⟩
                          case measure => simp [intOf]; omega
                        · have HQ1 := hid (fun w' v (h : Ints w' v [X, bb, cc, dd]) => bool_as9 (o := some false) (z := false) (t := true) (by have h := implIsRootQ_any v _ w' h; rw [ho6, h6] at h; exact h) rfl rfl)
                          have HQ2 := hid (fun w' v (h : Ints w' v [X, bb, cc, dd]) => num_as9 (o := some G) (z := G) (t := true) (by have h := implScaleOf_any v _ w' h; rw [ho7, h7] at h; exact h) rfl rfl)
                          have HRV := hid hr
                          skip
                          clear ho6 ho7 h6 h7 hr
                          go_wp2_with fail
                          refine (HQ1.out _ _ (HI.out _)).mono ?_
                          rintro e w6 ⟨rfl, hL6⟩
                          have HI6 := hid ((HI.out _).later hL6)
                          have HL6 := hid ((Later.alloc _ _).trans hL6)
                          clear hL6 HQ1
                          go_wp2_with fail
                          refine (HQ2.out _ _ HI6.out).mono ?_
                          rintro e w7 ⟨rfl, hL7⟩
                          have HL7 := hid (HL6.out.trans hL7)
                          clear hL7 HQ2
                          go_wp2_with fail
                          go_roundw
                          case rel => exact ⟨z + 1, by have := HDD.out; omega, by rw [HSU.out, HDD.out, HRR.out, HRV.out]; have := HFE.out; rw [if_neg (by simp), Nat.add_zero, this], by have := HDD.out; go_num, HLz.out.trans HL7.out⟩
                          case measure => simp [intOf]; omega
                        · have HQ1 := hid (fun w' v (h : Ints w' v [X, bb, cc, dd]) => bool_as9 (o := some true) (z := true) (t := true) (by have h := implIsRootQ_any v _ w' h; rw [ho6, h6] at h; exact h) rfl rfl)
                          have HQ2 := hid (fun w' v (h : Ints w' v [X, bb, cc, dd]) => num_as9 (o := some G) (z := G) (t := true) (by have h := implScaleOf_any v _ w' h; rw [ho7, h7] at h; exact h) rfl rfl)
                          have HRV := hid hr
                          have hGG : (G == 1) = false := by simp [hG]
                          clear ho6 ho7 h6 h7 hr
                          go_wp2_with fail
                          refine (HQ1.out _ _ (HI.out _)).mono ?_
                          rintro e w6 ⟨rfl, hL6⟩
                          have HI6 := hid ((HI.out _).later hL6)
                          have HL6 := hid ((Later.alloc _ _).trans hL6)
                          clear hL6 HQ1
                          go_wp2_with fail
                          refine (HQ2.out _ _ HI6.out).mono ?_
                          rintro e w7 ⟨rfl, hL7⟩
                          have HL7 := hid (HL6.out.trans hL7)
                          clear hL7 HQ2
                          go_wp2_with fail
                          go_roundw
                          case rel => exact ⟨z + 1, by have := HDD.out; omega, by rw [HSU.out, HDD.out, HRR.out, HRV.out]; have := HFE.out; rw [if_neg (by simp), Nat.add_zero, this], by have := HDD.out; go_num, HLz.out.trans HL7.out⟩
                          case measure => simp [intOf]; omega
                        · have HQ1 := hid (fun w' v (h : Ints w' v [X, bb, cc, dd]) => bool_as9 (o := some true) (z := true) (t := true) (by have h := implIsRootQ_any v _ w' h; rw [ho6, h6] at h; exact h) rfl rfl)
                          have HQ2 := hid (fun w' v (h : Ints w' v [X, bb, cc, dd]) => num_as9 (o := some 1) (z := 1) (t := true) (by have h := implScaleOf_any v _ w' h; rw [ho7, h7] at h; exact h) rfl rfl)
                          have HRV := hid hr
                          skip
                          clear ho6 ho7 h6 h7 hr
                          go_wp2_with fail
                          refine (HQ1.out _ _ (HI.out _)).mono ?_
                          rintro e w6 ⟨rfl, hL6⟩
                          have HI6 := hid ((HI.out _).later hL6)
                          have HL6 := hid ((Later.alloc _ _).trans hL6)
                          clear hL6 HQ1
                          go_wp2_with fail
                          refine (HQ2.out _ _ HI6.out).mono ?_
                          rintro e w7 ⟨rfl, hL7⟩
                          have HL7 := hid (HL6.out.trans hL7)
                          clear hL7 HQ2
                          go_wp2_with fail
                          go_roundw
                          case rel => exact ⟨z + 1, by have := HDD.out; omega, by rw [HSU.out, HDD.out, HRR.out, HRV.out]; have := HFE.out; rw [if_pos rfl, ← Nat.add_assoc, this]; rfl, by have := HDD.out; go_num, HLz.out.trans HL7.out⟩
                          case measure => simp [intOf]; omega
                      · have hgd : ¬ dd ≤ 60 := hltd
                        have hzz : (z : Int) = 61 - cc := by omega
                        have HYS := hid (show (gB n x).length + (gC n bb (y + 1)).length = F by
                          rw [gC_succ, HCC.out, show (60 - cc + 1).toNat = z by omega]
                          have := HFE.out
                          omega)
                        have hy1 : y + 1 ≤ 60 - x := by have := HCC.out; have := HBB.out; omega
                        clear hFe hsucc hdd hzz
                        go_wp2_with fail
                        go_roundw
                        case rel => exact ⟨y + 1, hy1, by rw [HYS.out], by have := HCC.out; go_num, HLy.out.trans HLz.out⟩
                        case measure => simp [intOf]; omega
                  · as_aux_lemma =>
                    have hgc : ¬ cc ≤ 60 := hltc
                    have hyy : y = 60 - x := by have := HBB.out; have := HCC.out; omega
                    have HXS := hid (show (gB n (x + 1)).length = (gB n x).length + (gC n bb y).length by
                      rw [gB_succ, HBB.out, hyy])
                    have hx1 : x + 1 ≤ 60 := by have := HBB.out; omega
                    clear hcc
                    go_wp2_with fail
                    go_roundw
                    case rel => exact ⟨x + 1, hx1, by rw [HXS.out], by have := HBB.out; go_num, HLx.out.trans HLy.out⟩
                    case measure => simp [intOf]; omega
              · as_aux_lemma =>
                have hgb : ¬ bb ≤ 60 := hltb
                obtain rfl : x = 60 := by omega
                obtain ⟨F, hF⟩ : ∃ F : Nat, (gB n 60).length = F := ⟨_, rfl⟩
                have HFT := hid (show F = toldN n m by rw [← hF, found_told HN30.out, ← HLN.out, HM.out])
                rw [hF]
                have HR := hid (HR.out.later HLx.out)
                have hmb2 := HMB.out
                clear hbb hF
                rename World => Wt
                go_wp2_with fail
                go_loopw [27, 188] (fun f i wr => ∃ j : Nat, j ≤ m ∧ f = .int .i64 (toldN n j : Nat) ∧ i = .int .i64 j ∧ Later Wt wr) (fun _ i _ => m - (intOf i).toNat)
                case atStart => exact ⟨0, Nat.zero_le _, by rfl, rfl, Later.refl _⟩
                case round =>
                  obtain ⟨j, hj, rfl, rfl, hLr⟩ := hrel
                  have HLr := hid hLr
                  clear hLr
                  obtain ⟨T, hT⟩ : ∃ T : Nat, toldN n j = T := ⟨_, rfl⟩
                  have HTE := hid hT
                  rw [hT]
                  by_cases hlt : j < m
                  · have hltI : (j : Int) < (m : Int) := by omega
                    have hjl : j < (rootsN n).length := by rw [← HLN.out, HM.out]; exact hlt
                    have hTb : T ≤ 1000000 := by
                      rw [← hT]
                      unfold toldN
                      refine Nat.le_trans (List.length_filter_le _ _) ?_
                      rw [List.length_take]
                      omega
                    have hsu := told_succ hjl
                    rw [hT, ← HLN.out] at hsu
                    obtain ⟨ad, rj, qj, e1, hcell, _, hij⟩ := HR.out.2 j (by rw [HM.out]; exact hlt)
                    subst e1
                    have hmem : L.getD j [] ∈ rootsN n := by
                      rw [HLN.out, List.getD_eq_getElem?_getD, List.getElem?_eq_getElem hjl, Option.getD_some]; exact List.getElem_mem _
                    obtain ⟨b', c', d', e', _⟩ := rootsN_out HN30.out.1 hmem
                    obtain ⟨Q, hQ⟩ : ∃ R, L.getD j [] = R := ⟨_, rfl⟩
                    rw [hQ] at hcell hij hsu e'
                    obtain ⟨l, hll⟩ : ∃ l, Q.length = l := ⟨_, rfl⟩
                    have hl4 : l = 4 := by rw [← hll, e']; rfl
                    rw [hll] at hcell hij
                    obtain ⟨_, _, e0, _, hcs⟩ := id hij
                    simp only [Value.slice.injEq] at e0
                    obtain ⟨rfl, hl', rfl⟩ := e0
                    obtain ⟨rd, rfl, hc3⟩ := hcs 3 (by rw [hll]; omega)
                    obtain ⟨Z, hZ⟩ : ∃ Z, Q.getD 3 0 = Z := ⟨_, rfl⟩
                    rw [hZ] at hc3 hsu
                    have kj := HLr.out.cell hcell
                    have k3 := HLr.out.cell hc3
                    rw [show rd.add 3 = ⟨rd.block, rd.off + 3, none⟩ by simp [Addr.add]] at k3
                    have hl3I : (3 : Int) < (l : Int) := by omega
                    have hwT : IntKind.i64.wrap ((T : Int) + 1) = (T : Int) + 1 := wrapQ (by omega)
                    have HSU := hid hsu
                    clear hmem e' hQ hcell hij hll hcs hl' hc3 hZ hsu hT hl4
                    by_cases hz : Z ≤ 60
                    · have hdz : decide (Z ≤ 60) = true := decide_eq_true hz
                      go_wp2_with fail
                      go_roundw
                      case rel => exact ⟨j + 1, hlt, by rw [HSU.out, if_pos hz]; rfl, by go_num, HLr.out⟩
                      case measure => simp [intOf]; omega
                    · have hdz : decide (Z ≤ 60) = false := decide_eq_false hz
                      go_wp2_with fail
                      go_roundw
                      case rel => exact ⟨j + 1, hlt, by rw [HSU.out, if_neg hz]; rfl, by go_num, HLr.out⟩
                      case measure => simp [intOf]; omega
                  · obtain rfl : j = m := by omega
                    have hge : ¬ (j : Int) < (j : Int) := by omega
                    have hFT : F = T := by rw [HFT.out, ← hT]
                    subst hFT
                    have hFF : ((F : Int) != (F : Int)) = false := by simp
                    clear hT
                    go_wp2_with fail
                    go_meet
                    case rel => exact HLx.out.trans HLr.out
        case rest =>
        as_aux_lemma =>
        have HLZ := hid (HLA.out.trans hcut)
        clear hcut HR HLA
        go_wp2_with fail
        refine (drawAllRootsUpTo_any v ys _ (HY.out.later HLZ.out)).mono ?_
        rintro e w10 ⟨M, rfl, hL10⟩
        have HL10 := hid (HLZ.out.trans hL10)
        clear hL10 HLZ
        obtain ⟨o, ho⟩ : ∃ o, allRootsAns M = o := ⟨_, rfl⟩
        obtain ⟨t2, ht⟩ : ∃ t, o.isSome = t := ⟨_, rfl⟩
        obtain ⟨K, hK⟩ : ∃ r, o.getD [] = r := ⟨_, rfl⟩
        obtain ⟨q, hq⟩ : ∃ N, K.length = N := ⟨_, rfl⟩
        have HA := hid (fun w0 => rows_asG (by have h := implAllRootsUpTo_any M w0; rw [ho] at h; exact h) hK ht)
        have HB := hid (fun w0 => rows_asG (by have h := specAllRootsUpTo_any M w0; rw [ho] at h; exact h) hK ht)
        rw [hq] at HA HB
        have HT2 := hid (show t2 = true → (1 ≤ M ∧ M ≤ 30) ∧ q = (allRts M.toNat).length by
          intro h
          rw [← ht, ← ho] at h
          unfold allRootsAns at h
          split at h
          · rename_i hc
            refine ⟨within130.1 hc, ?_⟩
            rw [← hq, ← hK, ← ho]
            unfold allRootsAns
            rw [if_pos hc]; rfl
          · cases h)
        have HQ := hid hq
        have htt : (t2 != t2) = false := by simp
        clear ho ht hK hq
        go_wp2_with fail
        refine (HA.out _).mono ?_
        rintro e w11 ⟨a11, c11, rfl, hr11, hL11⟩
        have HR := hid hr11
        have HL11 := hid hL11
        clear hr11 hL11
        go_wp2_with fail
        refine (HB.out _).mono ?_
        rintro e w12 ⟨a12, c12, rfl, hr12, hL12⟩
        have HLA := hid (HL10.out.trans (HL11.out.trans hL12))
        have HV := hid (dLists_same (.slice a11 q c11) (.slice a12 q c12) K w12 (by have h := (HR.out.later hL12).1; rw [HQ.out] at h; exact h) (by have h := hr12.1; rw [HQ.out] at h; exact h))
        clear hr12 hL12 HA HB HL10 HL11 HR
        go_wp2_with fail
        refine (drewLaterR HV.out (Later.refl _)).mono ?_
        rintro e W2 ⟨rfl, hLc⟩
        have HLA := hid (HLA.out.trans hLc)
        clear hLc HV htt
        cases t2
        · go_wp2_with fail
          go_ret
          exact ⟨rfl, HLA.out⟩
        · obtain ⟨hM, hqa⟩ := HT2.out rfl
          have HQA := hid hqa
          obtain ⟨mm, hmm⟩ : ∃ k : Nat, M = (k : Int) := ⟨M.toNat, by omega⟩
          have HMM := hid hmm
          have hm30 : mm ≤ 30 := by omega
          subst hmm
          clear hqa hM
          rename World => W2
          go_wp2_with fail
          go_loopw [35, 36] (fun s k wr => ∃ j : Nat, j ≤ mm ∧ s = .int .i64 ((allRts j).length : Nat) ∧ k = .int .i64 ((j : Int) + 1) ∧ Later W2 wr) (fun _ k _ => 40 - (intOf k).toNat)
          case atStart => exact ⟨0, Nat.zero_le _, by rfl, by rfl, Later.refl _⟩
          case round =>
            obtain ⟨j, hj, rfl, rfl, hLr⟩ := hrel
            have HLr := hid hLr
            clear hLr
            have hab := allRts_len j (by omega)
            obtain ⟨T, hT⟩ : ∃ T : Nat, (allRts j).length = T := ⟨_, rfl⟩
            have HTE := hid hT
            rw [hT] at hab ⊢
            obtain ⟨kk, hkk⟩ : ∃ c : Int, (j : Int) + 1 = c := ⟨_, rfl⟩
            have HKK := hid hkk
            rw [hkk]
            by_cases hlt : j < mm
            · have hltI : kk ≤ (mm : Int) := by omega
              have hk30 : 1 ≤ kk ∧ kk ≤ 30 := by omega
              have hrl := rootsN_len hk30
              have HQ1 := hid (fun w' => rows_asG (o := some (rootsN kk)) (L := rootsN kk) (t := true) (by have h := implRootsWith_any kk w'; rw [show rootsAns kk = some (rootsN kk) by unfold rootsAns; rw [if_pos (within130.2 hk30)]] at h; exact h) rfl rfl)
              have hsu := allRts_succ j
              obtain ⟨P, hP⟩ : ∃ P : Nat, (rootsN kk).length = P := ⟨_, rfl⟩
              rw [hP] at HQ1 hrl
              have HSU := hid (show (allRts (j + 1)).length = T + P by rw [hsu, List.length_append, hkk, hT, hP])
              have hwT : IntKind.i64.wrap ((T : Int) + (P : Int)) = ((T + P : Nat) : Int) := by rw [wrapQ (by omega)]; omega
              have hwk : IntKind.i64.wrap (kk + 1) = kk + 1 := wrapQ (by omega)
              clear hT hP hsu hkk
              go_wp2_with fail
              refine HQ1.out _ |>.mono ?_
              rintro e w13 ⟨a13, c13, rfl, _, hL13⟩
              have HL13 := hid (HLr.out.trans hL13)
              clear hL13 HQ1
              go_wp2_with fail
              go_roundw
              case rel => exact ⟨j + 1, hlt, by rw [HSU.out]; exact congrArg _ (by omega), by have := HKK.out; go_num, HL13.out⟩
              case measure => simp [intOf]; omega
            · obtain rfl : j = mm := by omega
              have hge : ¬ kk ≤ (j : Int) := by omega
              have hqT : q = T := by rw [HQA.out, ← hT]; simp
              subst hqT
              clear hT hkk
              go_wp2_with fail
              go_ret
              exact ⟨by simp, HLA.out.trans HLr.out⟩
  · go_wp2_with fail
    go_ret
    exact ⟨rfl, Later.refl _⟩
end Go.Proofs.Ytoaopmafokoaoab
