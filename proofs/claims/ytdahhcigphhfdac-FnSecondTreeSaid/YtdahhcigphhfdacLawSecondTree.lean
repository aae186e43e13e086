/- The walk of the law FnSecondTree. -/
import Derived.Test.YtdahhcigphhfdacAsG
import Derived.Test.YtdahhcigphhfdacCuRab
import Derived.Test.YtdahhcigphhfdacRiLb
import Derived.Test.YtdahhcigphhfdacRiEU
import Derived.Test.YtdahhcigphhfdacRiF
import Derived.Test.YtdahhcigphhfdacRiB
import Derived.Test.YtdahhcigphhfdacRiXbc
namespace Go.Proofs.Ytdahhcigphhfdac
open Go.RowKit

theorem box_newG (w : World) (v : Value) (t : TypeId) : (w.alloc (.cells #[v] t)).cell? ⟨w.heap.size, 0, none⟩ = some v := by simp [go_sem]
set_option maxRecDepth 100000 in
set_option maxHeartbeats 8000000 in
theorem lawSecondTree_walk (u v : Value) (xs ys : List Int) (w : World) (hx : BytesR w u xs) (hy : BytesR w v ys) :
    Calls Try.prog 5 #[u, v] w fun e w' => e = .returned (.bool true) ∧ Later w w' := by
  obtain ⟨ua, uc, rfl⟩ := bytes_form hx
  obtain ⟨va, vc, rfl⟩ := bytes_form hy
  have HX := hid hx
  have HY := hid hy
  clear hx hy
  go_enter Try.func5, Try.ntmps5
  go_wp2_with fail
  refine (big_any _ _ xs ys w HX.out HY.out).mono ?_
  rintro e w0 ⟨⟨b, rfl, hbig⟩, rfl⟩
  cases b
  · have HBG := hid (hbig rfl)
    clear hbig
    go_wp2_with fail
    refine (drawPriceChild_any _ xs w HX.out).mono ?_
    rintro e w1 ⟨u1, zs, k, rfl, hO, hlen, hL1⟩
    obtain ⟨p1, c1, rfl, hcap⟩ := hO.shape
    have HI := hid hO.ints
    have HOW := hid hO
    have HL1 := hid hL1
    clear hO hL1 hcap
    obtain ⟨o, ho⟩ : ∃ o, childAns priceC zs k = o := ⟨_, rfl⟩
    have HO := hid ho
    obtain ⟨z, hz⟩ : ∃ r, o.getD [] = r := ⟨_, rfl⟩
    obtain ⟨t, ht⟩ : ∃ t, o.isSome = t := ⟨_, rfl⟩
    obtain ⟨N, hN⟩ : ∃ N, zs.length = N := ⟨_, rfl⟩
    obtain ⟨M, hM⟩ : ∃ N, z.length = N := ⟨_, rfl⟩
    have HC := hid (fun w0 (h : Later w1 w0) => ints_asG (by have h := implPriceChild_any _ zs k w0 (HI.out.later h); rw [ho] at h; exact h) hz ht)
    have HS := hid (fun w0 (h : Later w1 w0) => ints_asG (by have h := specPriceChild_any _ zs k w0 (HI.out.later h); rw [ho] at h; exact h) hz ht)
    rw [hN] at HI hlen HC HS HOW ⊢
    rw [hM] at HC HS
    have HN := hid hN
    have HM := hid hM
    have HZ := hid hz
    have HT := hid ht
    have htt : (t != t) = false := by simp
    clear ho hz ht hN hM
    go_wp2_with fail
    refine (HC.out _ (Later.refl _)).mono ?_
    rintro e w2 ⟨a2, c2, rfl, hi2, hc2, hL2⟩
    have HI2 := hid hi2
    have HL2 := hid hL2
    clear hi2 hc2 hL2
    go_wp2_with fail
    refine (HS.out _ HL2.out).mono ?_
    rintro e w3 ⟨a3, c3, rfl, hi3, hc3, hL3⟩
    have HV := hid (vSame_same _ _ z _ (HI2.out.later hL3) hi3)
    have HI3 := hid (HI2.out.later hL3)
    have HL3 := hid (HL2.out.trans hL3)
    clear hi3 hc3 hL3 HI2 HL2 HC HS
    go_wp2_with fail
    refine HV.out.mono ?_
    rintro e w4 ⟨rfl, n4, rfl⟩
    have HL4 := hid (HL3.out.trans (Later.drewN w3 n4))
    have HI4 := hid (HI3.out.drewN n4)
    generalize w3.drewN n4 = w4 at HL4 HI4 ⊢
    clear HV HI3 HL3
    go_wp2_with fail
    refine (drawPriceMatrix_any _ ys _ (HY.out.later (HL1.out.trans HL4.out))).mono ?_
    rintro e w6 ⟨j, rfl, hL6⟩
    have HL46 := hid hL6
    clear hL6
    obtain ⟨om, hom⟩ : ∃ o, priceM j = o := ⟨_, rfl⟩
    obtain ⟨Z, hZm⟩ : ∃ r, om.getD [] = r := ⟨_, rfl⟩
    obtain ⟨tm, htm⟩ : ∃ t, om.isSome = t := ⟨_, rfl⟩
    obtain ⟨K, hK⟩ : ∃ N, Z.length = N := ⟨_, rfl⟩
    have HB1 := hid (fun w0 => mat_asG (by have h := implPriceMatrix_any j w0; rw [hom] at h; exact h) hZm htm)
    have HB2 := hid (fun w0 => mat_asG (by have h := specPriceMatrix_any j w0; rw [hom] at h; exact h) hZm htm)
    rw [hK] at HB1 HB2
    have HOM := hid hom
    have HZM := hid hZm
    have HTM := hid htm
    have HK := hid hK
    have htmm : (tm != tm) = false := by simp
    clear hom hZm htm hK
    go_wp2_with fail
    refine (HB1.out _).mono ?_
    rintro e w7 ⟨a7, c7, rfl, hr7, hL7⟩
    have HR7 := hid hr7
    have HL67 := hid hL7
    clear hr7 hL7
    go_wp2_with fail
    refine (HB2.out _).mono ?_
    rintro e w8 ⟨a8, c8, rfl, hr8, hL8⟩
    have HR8 := hid hr8
    have HL78 := hid hL8
    clear hr8 hL8
    go_upto_region 11 with fail
    have c12 := (Later.alloc w8 (.cells #[.slice a8 K c8] 46)).cell (HL78.out.cell (box_newG w7 (.slice a7 K c7) 46))
    have c14 := box_newG w8 (.slice a8 K c8) 46
    have HRA := hid (((HR7.out.later (Later.alloc w7 (.cells #[.slice a7 K c7] 46))).later HL78.out).later (Later.alloc w8 (.cells #[.slice a8 K c8] 46)))
    have HRB := hid (HR8.out.later (Later.alloc w8 (.cells #[.slice a8 K c8] 46)))
    have HL4W := hid (HL46.out.trans (((HL67.out.trans (Later.alloc w7 (.cells #[.slice a7 K c7] 46))).trans HL78.out).trans (Later.alloc w8 (.cells #[.slice a8 K c8] 46))))
    generalize w8.alloc (.cells #[.slice a8 K c8] 46) = W at c12 c14 HRA HRB HL4W ⊢
    have HVS := hid (vSameLists_same (.slice a7 K c7) (.slice a8 K c8) Z W (by have h := HRA.out.1; rw [HK.out] at h; exact h) (by have h := HRB.out.1; rw [HK.out] at h; exact h))
    obtain ⟨B12, hB12⟩ : ∃ B, w7.heap.size = B := ⟨_, rfl⟩
    obtain ⟨B14, hB14⟩ : ∃ B, w8.heap.size = B := ⟨_, rfl⟩
    rw [hB12] at c12 ⊢
    rw [hB14] at c14 ⊢
    clear hB12 hB14 HRB HB1 HB2 HR7 HR8 HL67 HL78 HL46
    have HC12 := hid c12
    go_upto_if 92 with (go_at_call 21; refine HVS.out.mono ?_; rintro e w9 ⟨rfl, n9, rfl⟩)
    have HLW := hid (Later.drewN W n9)
    generalize W.drewN n9 = W2 at HLW ⊢
    have HGW := hid (HRA.out.later HLW.out)
    have HIW := hid (HI4.out.later (HL4W.out.trans HLW.out))
    have HL1W := hid (HL4.out.trans (HL4W.out.trans HLW.out))
    have kC := HLW.out.cell HC12.out
    clear c12 c14 HVS HRA HI4 HC12 HL4W HL4 HLW htmm
    go_cut [] (fun wx => Later W2 wx)
    case first =>
      cases tm
      · go_wp2_with fail
        go_meet
        case rel => exact Later.refl _
      · as_aux_lemma =>
        obtain ⟨M', hM'⟩ : ∃ q, om = some q := Option.isSome_iff_exists.1 HTM.out
        subst hM'
        have hz := HZM.out
        simp only [Option.getD_some] at hz
        subst hz
        obtain ⟨hb1, hb2⟩ := HBG.out
        obtain ⟨r1, hr1⟩ : ∃ r, (xs.length : Int).tmod 9 = r := ⟨_, rfl⟩
        obtain ⟨r2, hr2⟩ : ∃ r, (ys.length : Int).tmod 7 = r := ⟨_, rfl⟩
        obtain ⟨r3, hr3⟩ : ∃ r, ((xs.length : Int) + (ys.length : Int)).tmod 11 = r := ⟨_, rfl⟩
        have g1 : (xs.length : Int) % 9 = r1 := by rw [← hr1]; exact (Int.tmod_eq_emod_of_nonneg (by omega)).symm
        have g2 : (ys.length : Int) % 7 = r2 := by rw [← hr2]; exact (Int.tmod_eq_emod_of_nonneg (by omega)).symm
        have g3 : ((xs.length : Int) + (ys.length : Int)) % 11 = r3 := by rw [← hr3]; exact (Int.tmod_eq_emod_of_nonneg (by omega)).symm
        have b1 : 0 ≤ r1 ∧ r1 ≤ 8 := by omega
        have b2 : 0 ≤ r2 ∧ r2 ≤ 6 := by omega
        have b3 : 0 ≤ r3 ∧ r3 ≤ 10 := by omega
        have hsw := wrapQ (q := (xs.length : Int) + (ys.length : Int)) (by omega)
        have h1w := wrapQ (q := r1) (by omega)
        have h2w := wrapQ (q := r2) (by omega)
        have h3w := wrapQ (q := r3) (by omega)
        have h4w := wrapQ (q := r1 - 4) (by omega)
        have h5w := wrapQ (q := r2 - 3) (by omega)
        have h6w := wrapQ (q := r3 - 5) (by omega)
        obtain ⟨X, Y, Z', hap, bX, bY, bZ, hform⟩ := price_form HOM.out (x := r1 - 4) (y := r2 - 3) (z := r3 - 5) (by omega) (by omega) (by omega)
        have hf1 := form_atR (x := r1 - 4) (y := r2 - 3) (z := r3 - 5) (by omega) (by omega) (by omega)
        have hf2 := form_atR (x := X) (y := Y) (z := Z') bX bY bZ
        rw [hform] at hf2
        obtain ⟨F, hF⟩ : ∃ F, (r1 - 4) * (r1 - 4) + (r2 - 3) * (r2 - 3) - (r3 - 5) * (r3 - 5) = F := ⟨_, rfl⟩
        have bF : -1000 ≤ F ∧ F ≤ 1000 := by
          have q1 := mulBdG (x := r1 - 4) (y := r1 - 4) (B := 4) (C := 4) (by omega) (by omega)
          have q2 := mulBdG (x := r2 - 3) (y := r2 - 3) (B := 3) (C := 3) (by omega) (by omega)
          have q3 := mulBdG (x := r3 - 5) (y := r3 - 5) (B := 5) (C := 5) (by omega) (by omega)
          omega
        rw [hF] at hf1 hf2
        have h7w := wrapQ (q := 4 * F) (by omega)
        have HAPP := hid hap
        have HF1 := hid hf1
        have HF2 := hid hf2
        clear hform hF bX bY bZ hap hf1 hf2 hb1 hb2
        go_upto_region 15 with fail
        have hF := ownsMat3 W2 1 0 0 0 1 0 0 0 (-1)
        generalize hX4 : (((W2.alloc (.cells #[.int .i64 1, .int .i64 0, .int .i64 0] 3)).alloc (.cells #[.int .i64 0, .int .i64 1, .int .i64 0] 3)).alloc (.cells #[.int .i64 0, .int .i64 0, .int .i64 (-1)] 3)).alloc (.cells #[.slice (some ⟨W2.heap.size, 0, none⟩) 3 3, .slice (some ⟨W2.heap.size + 1, 0, none⟩) 3 3, .slice (some ⟨W2.heap.size + 1 + 1, 0, none⟩) 3 3] 26) = X4 at hF ⊢
        have hs4 : X4.heap.size = W2.heap.size + 1 + 1 + 1 + 1 := by rw [← hX4]; simp
        have hL4X : Later W2 X4 := by rw [← hX4]; exact (((Later.alloc _ _).trans (Later.alloc _ _)).trans (Later.alloc _ _)).trans (Later.alloc _ _)
        have kb := box_newG X4 (.slice (some ⟨W2.heap.size + 1 + 1 + 1, 0, none⟩) 3 3) 46
        have hL5 := hL4X.trans (Later.alloc X4 (.cells #[.slice (some ⟨W2.heap.size + 1 + 1 + 1, 0, none⟩) 3 3] 46))
        have HFR := hid (show Rows2 (X4.alloc (.cells #[.slice (some ⟨W2.heap.size + 1 + 1 + 1, 0, none⟩) 3 3] 46)) (.slice (some ⟨W2.heap.size + 1 + 1 + 1, 0, none⟩) 3 3) formR from hF.rows.later (Later.alloc _ _))
        rw [hs4] at kb
        generalize X4.alloc (.cells #[.slice (some ⟨W2.heap.size + 1 + 1 + 1, 0, none⟩) 3 3] 46) = W5 at kb HFR hL5 ⊢
        obtain ⟨B, hB⟩ : ∃ B, W2.heap.size + 1 + 1 + 1 + 1 = B := ⟨_, rfl⟩
        obtain ⟨G, hG⟩ : ∃ B, W2.heap.size + 1 + 1 + 1 = B := ⟨_, rfl⟩
        rw [hB] at kb ⊢
        rw [hG] at kb HFR
        replace kC := hL5.cell kC
        have HL5 := hid hL5
        clear hF hX4 hs4 hL4X hL5 hB hG
        have HVL := hid (show Ints (W5.alloc (.cells #[.int .i64 (r1 - 4), .int .i64 (r2 - 3), .int .i64 (r3 - 5)] 3)) (.slice (some ⟨W5.heap.size, 0, none⟩) 3 3) [r1 - 4, r2 - 3, r3 - 5] from (ownInts_litG W5 W5.heap.size (Nat.le_refl _) [r1 - 4, r2 - 3, r3 - 5] (by simp)).ints)
        have HL6 := hid (Later.alloc W5 (.cells #[.int .i64 (r1 - 4), .int .i64 (r2 - 3), .int .i64 (r3 - 5)] 3))
        go_upto_region 16 with fail
        generalize W5.alloc (.cells #[.int .i64 (r1 - 4), .int .i64 (r2 - 3), .int .i64 (r3 - 5)] 3) = W6 at HVL HL6 ⊢
        obtain ⟨B6, hB6⟩ : ∃ B, W5.heap.size = B := ⟨_, rfl⟩
        rw [hB6] at HVL ⊢
        have HL2 := hid (HL5.out.trans HL6.out)
        have HFR6 := hid (HFR.out.later HL6.out)
        have HKC := hid (HL6.out.cell kC)
        have HKB := hid (HL6.out.cell kb)
        have HAM := hid (ints_asG (o := some [X, Y, Z']) (z := [X, Y, Z']) (t := true) (by have h := implApplyMatrix_any (.slice a7 K c7) (.slice (some ⟨B6, 0, none⟩) 3 3) M' [r1 - 4, r2 - 3, r3 - 5] W6 (by have h2 := (HGW.out.later HL2.out).1; rw [HK.out] at h2; exact h2) HVL.out; rw [HAPP.out] at h; exact h) rfl rfl)
        have HFA := hid (fun w0 (h : Later W6 w0) => num_as9 (o := some F) (z := F) (t := true) (by have h := implFormAt_any (.slice (some ⟨G, 0, none⟩) 3 3) (.slice (some ⟨B6, 0, none⟩) 3 3) formR [r1 - 4, r2 - 3, r3 - 5] w0 (HFR6.out.later h) (HVL.out.later h); rw [HF1.out] at h; exact h) rfl rfl)
        have HFB := hid (fun w0 a9 c9 (h : Later W6 w0) (h9 : Ints w0 (.slice a9 3 c9) [X, Y, Z']) => num_as9 (o := some (4 * F)) (z := 4 * F) (t := true) (by have h := implFormAt_any (.slice (some ⟨G, 0, none⟩) 3 3) (.slice a9 3 c9) formR [X, Y, Z'] w0 (HFR6.out.later h) h9; rw [HF2.out] at h; exact h) rfl rfl)
        have kc6 := HKC.out
        have kb6 := HKB.out
        clear kC kb hB6 hr1 hr2 hr3 g1 g2 g3 b1 b2 b3 hsw h1w h2w h3w h4w h5w h6w HFR HL5
        go_wp2_with fail
        refine HAM.out.mono ?_
        rintro e w9 ⟨a9, c9, rfl, hi9, _, hL9⟩
        have HI9 := hid hi9
        have HL9 := hid hL9
        replace kb6 := hL9.cell HKB.out
        clear hi9 hL9 HAM kc6
        simp only [List.length_cons, List.length_nil, Nat.zero_add, Nat.reduceAdd] at HI9 ⊢
        go_wp2_with fail
        refine (HFA.out _ HL9.out).mono ?_
        rintro e w10 ⟨rfl, hL10⟩
        have HL10 := hid (HL9.out.trans hL10)
        have HI10 := hid (HI9.out.later hL10)
        replace kb6 := HL10.out.cell HKB.out
        clear hL10 HFA
        have HFC := hid (HFB.out w10 a9 c9 HL10.out HI10.out)
        go_wp2_with fail
        refine HFC.out.mono ?_
        rintro e w11 ⟨rfl, hL11⟩
        have HL11 := hid (HL2.out.trans (HL10.out.trans hL11))
        clear hL11
        go_wp2_with fail
        go_meet
        case rel => exact HL11.out
    case rest =>
    as_aux_lemma =>
    have HIX := hid (HIW.out.later hcut)
    have HLX := hid (HL1W.out.trans hcut)
    clear hcut kC HIW HL1W HGW HOM HZM HTM HK
    go_upto_if 148 with fail
    go_cut [] (fun wx => Later wc wx)
    case first =>
      cases t
      · go_wp2_with fail
        go_meet
        case rel => exact Later.refl _
      · as_aux_lemma =>
        obtain ⟨q, hq⟩ : ∃ q, o = some q := Option.isSome_iff_exists.1 HT.out
        subst hq
        have hz := HZ.out
        simp only [Option.getD_some] at hz
        subst hz
        obtain ⟨m, n, hr, k0, k2, hp, hc, hpm, hzs⟩ := childAns_some HO.out
        obtain ⟨hpar, _⟩ := child_backT treePrice HO.out
        obtain ⟨M', hM'⟩ := priceM_some k0 k2
        have hap := price_apply hM' hpm hp
        rw [← hzs, ← hc] at hap
        obtain ⟨X, hX⟩ : ∃ X, (priceC m n k).1 * (priceC m n k).1 - (priceC m n k).2 * (priceC m n k).2 = X := ⟨_, rfl⟩
        obtain ⟨Y, hY⟩ : ∃ X, 2 * (priceC m n k).1 * (priceC m n k).2 = X := ⟨_, rfl⟩
        obtain ⟨Z', hZ'⟩ : ∃ X, (priceC m n k).1 * (priceC m n k).1 + (priceC m n k).2 * (priceC m n k).2 = X := ⟨_, rfl⟩
        have hq3 : q = [X, Y, Z'] := by rw [hc, ← hX, ← hY, ← hZ']; rfl
        rw [hZ'] at hap
        obtain ⟨ad, e3, e4, d0, d1, d2⟩ := (show Ints wc (.slice a2 M c2) [X, Y, Z'] by rw [← hq3]; exact HIX.out).threeG
        subst e3
        subst e4
        have HAP := hid hap
        have HD2 := hid d2
        have HBM := hid (fun w0 => mat_asG (o := some M') (L := M') (t := true) (by have h := implPriceMatrix_any k w0; rw [hM'] at h; exact h) rfl rfl)
        have HPA := hid (fun w0 (h : Later wc w0) => in_asG (o := some (zs, k)) (z := zs) (k := k) (t := true) (by have h := implPriceParent_any _ q w0 (HIX.out.later h); rw [hpar] at h; exact h) rfl rfl rfl)
        have HAM := hid (fun w0 a5 c5 (h : Later wc w0) (h5 : RG w0 a5 c5 M') (hle : Z' ≤ 1000000) => ints_asG (o := some q) (z := q) (t := true) (by have h := implApplyMatrix_any (.slice a5 M'.length c5) (.slice p1 N c1) M' zs w0 h5.1 (HI.out.later (HLX.out.trans h)); rw [HAP.out hle] at h; exact h) rfl rfl)
        have hkk : (k != k) = false := by simp
        rw [HM.out] at HAM
        rw [HN.out] at HPA
        obtain ⟨K5, hK5⟩ : ∃ n, M'.length = n := ⟨_, rfl⟩
        rw [hK5] at HBM HAM
        clear hr k0 k2 hp hc hpm hzs hpar hM' hap hX hY hZ' hq3 d0 d1 hK5
        go_wp2_with fail
        refine (HBM.out _).mono ?_
        rintro e w5 ⟨a5, c5, rfl, hr5, hL5⟩
        have HR5 := hid hr5
        have HL5 := hid hL5
        have kB := box_newG w5 (.slice a5 K5 c5) 46
        have HLB := hid (Later.alloc w5 (.cells #[.slice a5 K5 c5] 46))
        clear hr5 hL5
        go_wp2_with fail
        generalize w5.alloc (.cells #[.slice a5 K5 c5] 46) = w5b at kB HLB ⊢
        obtain ⟨B5, hB5⟩ : ∃ B, w5.heap.size = B := ⟨_, rfl⟩
        rw [hB5] at kB ⊢
        have HKB := hid kB
        have HL5b := hid (HL5.out.trans HLB.out)
        have HR5b := hid (HR5.out.later HLB.out)
        clear hB5 kB HBM
        refine (HPA.out _ HL5b.out).mono ?_
        rintro e w6 ⟨a6, c6, rfl, hi6, _, hL6⟩
        have HVP := hid (vSame_same (.slice a6 N c6) (.slice p1 N c1) zs w6 hi6 (HI.out.later (HLX.out.trans (HL5b.out.trans hL6))))
        have HL6 := hid hL6
        clear hi6 hL6 HPA
        go_wp2_with fail
        refine HVP.out.mono ?_
        rintro e w10 ⟨rfl, n10, rfl⟩
        have HL10 := hid (HL6.out.trans (Later.drewN w6 n10))
        generalize w6.drewN n10 = w10 at HL10 ⊢
        clear HVP HL6
        have kd2 := HL10.out.cell (HL5b.out.cell HD2.out)
        have kb5 := HL10.out.cell HKB.out
        have HLX10 := hid (HL5b.out.trans HL10.out)
        by_cases hle : Z' ≤ 1000000
        · have HM2 := hid (HAM.out w10 a5 c5 HLX10.out (HR5b.out.later HL10.out) hle)
          clear HAM HAP HR5b HR5 HL5 HLB
          go_wp2_with fail
          refine HM2.out.mono ?_
          rintro e w11 ⟨a11, c11, rfl, hi11, _, hL11⟩
          have HL11 := hid (HLX10.out.trans hL11)
          have HV3 := hid (vSame_same (.slice a11 3 c11) (.slice (some ad) 3 c2) q w11 hi11 (HIX.out.later HL11.out))
          clear hi11 hL11 HM2
          go_wp2_with fail
          refine HV3.out.mono ?_
          rintro e w12 ⟨rfl, n12, rfl⟩
          go_wp2_with fail
          go_meet
          case rel => exact HL11.out.trans (Later.drewN _ _)
        · clear HAM HAP HR5b HR5 HL5 HLB
          go_wp2_with fail
          go_meet
          case rel => exact HLX10.out
    case rest =>
    as_aux_lemma =>
    have HLZ := hid (HL1.out.trans (HLX.out.trans hcut))
    clear hcut HIX HLX HO HZ HT HN HM HI HOW htt hlen
    go_wp2_with fail
    refine (drawPriceParent_any _ ys _ (HY.out.later HLZ.out)).mono ?_
    rintro e wd ⟨u2, us, rfl, hO, hlen2, hLd⟩
    obtain ⟨p2, cc2, rfl, hcap⟩ := hO.shape
    have HU := hid hO.ints
    have HLd := hid (HLZ.out.trans hLd)
    clear hO hcap hLd HLZ
    obtain ⟨op, hop⟩ : ∃ o, parentAns priceU us = o := ⟨_, rfl⟩
    have HOP := hid hop
    obtain ⟨zp, hzp⟩ : ∃ r, (op.getD ([], 0)).1 = r := ⟨_, rfl⟩
    obtain ⟨kp, hkp⟩ : ∃ r, (op.getD ([], 0)).2 = r := ⟨_, rfl⟩
    obtain ⟨tp, htp⟩ : ∃ t, op.isSome = t := ⟨_, rfl⟩
    obtain ⟨N2, hN2⟩ : ∃ N, us.length = N := ⟨_, rfl⟩
    obtain ⟨M2, hM2⟩ : ∃ N, zp.length = N := ⟨_, rfl⟩
    have HP1 := hid (fun w0 (h : Later wd w0) => in_asG (by have h := implPriceParent_any _ us w0 (HU.out.later h); rw [hop] at h; exact h) hzp hkp htp)
    have HP2 := hid (fun w0 (h : Later wd w0) => in_asG (by have h := specPriceParent_any _ us w0 (HU.out.later h); rw [hop] at h; exact h) hzp hkp htp)
    obtain ⟨tr, htr⟩ : ∃ t, (rightP us).isSome = t := ⟨_, rfl⟩
    have HRI := hid (fun w0 (h : Later wd w0) => implIsRight_as _ us tr htr w0 (HU.out.later h))
    have HN2 := hid hN2
    have HM2 := hid hM2
    have HZP := hid hzp
    have HKP := hid hkp
    have HTP := hid htp
    have HTR := hid htr
    rw [hN2] at HU HP1 HP2 HRI ⊢
    rw [hM2] at HP1 HP2
    have htt : (tp != tp) = false := by simp
    have hkk : (kp != kp) = false := by simp
    clear hop hzp hkp htp hN2 hM2 htr hlen2
    go_wp2_with fail
    refine (HP1.out _ (Later.refl _)).mono ?_
    rintro e we ⟨a3', c3', rfl, hi3, hc3, hLe⟩
    have HI3 := hid hi3
    have HC3 := hid hc3
    have HLe := hid hLe
    clear hi3 hc3 hLe
    go_wp2_with fail
    refine (HP2.out _ HLe.out).mono ?_
    rintro e wf ⟨a4', c4', rfl, hi4, _, hLf⟩
    have HLf := hid (HLe.out.trans hLf)
    have HI4 := hid (HI3.out.later hLf)
    have HV := hid (vSame_same (.slice a3' M2 c3') (.slice a4' M2 c4') zp wf HI4.out hi4)
    clear hi4 hLf HLe HI3 HP1 HP2
    go_upto_region 33 with fail
    go_cut [234] (fun s wx => s = .bool false ∧ Later wf wx)
    case first =>
      as_aux_lemma =>
      cases hr : rightP us with
      | none =>
        have e1 : tr = false := by rw [← HTR.out, hr]; rfl
        have e2 : tp = false := by rw [← HTP.out, ← HOP.out, parentAns_no hr]; rfl
        subst e1 e2
        clear hr
        go_wp2_with fail
        refine HV.out.mono ?_
        rintro e wg ⟨rfl, ng, rfl⟩
        go_wp2_with fail
        refine (HRI.out _ (HLf.out.trans (Later.drewN _ _))).mono ?_
        rintro e wh ⟨rfl, hLh⟩
        have HLh := hid ((Later.drewN wf ng).trans hLh)
        clear hLh
        go_wp2_with fail
        go_meet
        case rel => exact ⟨rfl, HLh.out⟩
      | some p =>
        obtain ⟨m, n⟩ := p
        obtain ⟨hp, hus⟩ := right_some hr
        have e1 : tr = true := by rw [← HTR.out, hr]; rfl
        obtain ⟨Z', hZ'⟩ : ∃ X, m * m + n * n = X := ⟨_, rfl⟩
        have h5 := five_root' hp
        rw [hZ'] at h5
        have HU3 := HU.out
        rw [hus] at HU3
        obtain ⟨ad, e3, e4, _, _, d2⟩ := (show Ints wd (.slice p2 N2 cc2) [m * m - n * n, 2 * m * n, m * m + n * n] from HU3).threeG
        rw [hZ'] at d2
        subst e3 e4
        have HD2 := hid d2
        by_cases hm : m ≤ 2
        · have e2 : tp = false := by rw [← HTP.out, ← HOP.out, parentAns_root hr hm]; rfl
          have hz5 : Z' = 5 := h5.2 hm
          subst e1 e2 hz5
          clear hr h5 hus hp HU3 d2 hm
          go_wp2_with fail
          refine HV.out.mono ?_
          rintro e wg ⟨rfl, ng, rfl⟩
          go_wp2_with fail
          refine (HRI.out _ (HLf.out.trans (Later.drewN _ _))).mono ?_
          rintro e wh ⟨rfl, hLh⟩
          have HLh := hid ((Later.drewN wf ng).trans hLh)
          have kd := HLh.out.cell (HLf.out.cell HD2.out)
          clear hLh
          go_wp2_with fail
          go_meet
          case rel => exact ⟨rfl, HLh.out⟩
        · have e2 : tp = true := by rw [← HTP.out, ← HOP.out, parentAns_yes hr (by omega)]; rfl
          have hz5 : (Z' != 5) = true := by simp only [bne_iff_ne]; exact fun e => hm (h5.1 e)
          subst e1 e2
          clear hr h5 hus hp HU3 d2 hm
          go_wp2_with fail
          refine HV.out.mono ?_
          rintro e wg ⟨rfl, ng, rfl⟩
          go_wp2_with fail
          refine (HRI.out _ (HLf.out.trans (Later.drewN _ _))).mono ?_
          rintro e wh ⟨rfl, hLh⟩
          have HLh := hid ((Later.drewN wf ng).trans hLh)
          have kd := HLh.out.cell (HLf.out.cell HD2.out)
          clear hLh
          go_wp2_with fail
          go_meet
          case rel => exact ⟨rfl, HLh.out⟩
    case rest =>
    obtain ⟨rfl, hLg⟩ := hcut
    have HLg := hid (HLf.out.trans hLg)
    have HI5 := hid (HI4.out.later hLg)
    clear hLg HLf HI4 HV HRI htt hkk
    cases tp
    · go_wp2_with fail
      go_ret
      exact ⟨rfl, HLd.out.trans HLg.out⟩
    · obtain ⟨q, hq⟩ : ∃ q, op = some q := Option.isSome_iff_exists.1 HTP.out
      subst hq
      obtain ⟨qz, qk⟩ := q
      have h1 := HZP.out
      have h2 := HKP.out
      simp only [Option.getD_some] at h1 h2
      subst h1 h2
      obtain ⟨hch, m, n, a', b', hus, hqz, hp, hpa, hlt, hua, hub⟩ := parent_backT treePrice HOP.out
      have hm2 : 2 < m := by have := hpa.h1; have := hpa.h2; omega
      have hzl := price_z hp hm2
      rw [hua, hub] at hzl
      obtain ⟨Z1, hZ1⟩ : ∃ X, a' * a' + b' * b' = X := ⟨_, rfl⟩
      obtain ⟨Z2, hZ2⟩ : ∃ X, m * m + n * n = X := ⟨_, rfl⟩
      rw [hZ1, hZ2] at hzl
      have HU3 := HU.out
      rw [hus] at HU3
      obtain ⟨ad, e3, e4, _, _, d2⟩ := (show Ints wd (.slice p2 N2 cc2) [m * m - n * n, 2 * m * n, m * m + n * n] from HU3).threeG
      subst e3 e4
      have HW3 := HI5.out
      rw [hqz] at HW3
      obtain ⟨ae, e5, e6, _, _, f2⟩ := (show Ints wc (.slice a3' M2 c3') [a' * a' - b' * b', 2 * a' * b', a' * a' + b' * b'] from HW3).threeG
      subst e5 e6
      rw [hZ2] at d2
      rw [hZ1] at f2
      have HD2 := hid d2
      have HF2 := hid f2
      have HBC := hid (fun w0 (h : Later wc w0) => ints_asG (o := some us) (z := us) (t := true) (by have h := implPriceChild_any (.slice (some ae) 3 c3') qz qk w0 (HI5.out.later h); rw [hch] at h; exact h) rfl rfl)
      rw [HN2.out] at HBC
      clear hch hus hqz hp hpa hlt hua hub hm2 hZ1 hZ2 HU3 HW3 d2 f2
      go_wp2_with fail
      refine (HBC.out _ (Later.refl _)).mono ?_
      rintro e wg ⟨a9, c9, rfl, hi9, _, hL9⟩
      have HL9 := hid hL9
      have HI9 := hid hi9
      clear hi9 hL9
      have HVQ := hid (fun m => vSame_same (.slice a9 3 c9) (.slice (some ad) 3 cc2) us _ (HI9.out.drewN m) ((HU.out.later (HLg.out.trans HL9.out)).drewN m))
      have kz1 := HL9.out.cell HF2.out
      have kz2 := (HLg.out.trans HL9.out).cell HD2.out
      go_wp2_with fail
      go_quiet ((go_at_call 11; exact Calls.quiet_of (HVQ.out _)))
      go_wp2_with fail
      go_ret
      exact ⟨by simp, HLd.out.trans (HLg.out.trans (HL9.out.trans (Later.drewN _ _)))⟩
  · go_wp2_with fail
    go_ret
    exact ⟨rfl, Later.refl _⟩
end Go.Proofs.Ytdahhcigphhfdac
