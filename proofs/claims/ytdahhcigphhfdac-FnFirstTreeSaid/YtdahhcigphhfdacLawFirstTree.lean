/- The walk of the law FnFirstTree. -/
import Derived.Test.YtdahhcigphhfdacAsG
import Derived.Test.YtdahhcigphhfdacCuRab
import Derived.Test.YtdahhcigphhfdacRiLb
import Derived.Test.YtdahhcigphhfdacRiEU
import Derived.Test.YtdahhcigphhfdacRiF
import Derived.Test.YtdahhcigphhfdacRiB
import Derived.Test.YtdahhcigphhfdacRiY
import Derived.Test.YtdahhcigphhfdacRiXbc
import Derived.Test.YtdahhcigphhfdacCatG
namespace Go.Proofs.Ytdahhcigphhfdac
open Go.RowKit

theorem box_newG (w : World) (v : Value) (t : TypeId) : (w.alloc (.cells #[v] t)).cell? ⟨w.heap.size, 0, none⟩ = some v := by simp [go_sem]
set_option maxRecDepth 100000 in
set_option maxHeartbeats 8000000 in
theorem lawFirstTree_walk (u v : Value) (xs ys : List Int) (w : World) (hx : BytesR w u xs) (hy : BytesR w v ys) :
    Calls Try.prog 4 #[u, v] w fun e w' => e = .returned (.bool true) ∧ Later w w' := by
  have HX := hid hx
  have HY := hid hy
  clear hx hy
  go_enter Try.func4, Try.ntmps4
  go_wp2_with fail
  refine (big_any u v xs ys w HX.out HY.out).mono ?_
  rintro e w0 ⟨⟨b, rfl, _⟩, rfl⟩
  cases b
  · go_wp2_with fail
    refine (drawBergChild_any u xs w HX.out).mono ?_
    rintro e w1 ⟨u1, zs, k, rfl, hO, hlen, hL1⟩
    obtain ⟨p1, c1, rfl, hcap⟩ := hO.shape
    have HI := hid hO.ints
    have HOW := hid hO
    have HL1 := hid hL1
    clear hO hL1 hcap
    obtain ⟨o, ho⟩ : ∃ o, childAns bergC zs k = o := ⟨_, rfl⟩
    have HO := hid ho
    obtain ⟨z, hz⟩ : ∃ r, o.getD [] = r := ⟨_, rfl⟩
    obtain ⟨t, ht⟩ : ∃ t, o.isSome = t := ⟨_, rfl⟩
    obtain ⟨N, hN⟩ : ∃ N, zs.length = N := ⟨_, rfl⟩
    obtain ⟨M, hM⟩ : ∃ N, z.length = N := ⟨_, rfl⟩
    have HC := hid (fun w0 (h : Later w1 w0) => ints_asG (by have h := implBergChild_any _ zs k w0 (HI.out.later h); rw [ho] at h; exact h) hz ht)
    have HS := hid (fun w0 (h : Later w1 w0) => ints_asG (by have h := specBergChild_any _ zs k w0 (HI.out.later h); rw [ho] at h; exact h) hz ht)
    rw [hN] at HI hlen HC HS HOW ⊢
    rw [hM] at HC HS
    have HN := hid hN
    have HM := hid hM
    have HZ := hid hz
    have HT := hid ht
    have htt : (t != t) = false := by simp
    clear ho hz ht hN hM
    go_wp2_with fail
    refine (HC.out _ (Later.refl _)).mono ?_
    rintro e w2 ⟨a2, c2, rfl, hi2, hc2, hL2⟩
    have HI2 := hid hi2
    have HL2 := hid hL2
    clear hi2 hc2 hL2
    go_wp2_with fail
    refine (HS.out _ HL2.out).mono ?_
    rintro e w3 ⟨a3, c3, rfl, hi3, hc3, hL3⟩
    have HV := hid (vSame_same _ _ z _ (HI2.out.later hL3) hi3)
    have HI3 := hid (HI2.out.later hL3)
    have HL3 := hid (HL2.out.trans hL3)
    clear hi3 hc3 hL3 HI2 HL2 HC HS
    go_wp2_with fail
    refine HV.out.mono ?_
    rintro e w4 ⟨rfl, n4, rfl⟩
    have HL4 := hid (HL3.out.trans (Later.drewN w3 n4))
    have HI4 := hid (HI3.out.drewN n4)
    generalize w3.drewN n4 = w4 at HL4 HI4 ⊢
    clear HV HI3 HL3
    go_upto_region 9 with fail
    have hF := ownsMat3 w4 1 0 0 0 1 0 0 0 (-1)
    generalize hX4 : (((w4.alloc (.cells #[.int .i64 1, .int .i64 0, .int .i64 0] 3)).alloc (.cells #[.int .i64 0, .int .i64 1, .int .i64 0] 3)).alloc (.cells #[.int .i64 0, .int .i64 0, .int .i64 (-1)] 3)).alloc (.cells #[.slice (some ⟨w4.heap.size, 0, none⟩) 3 3, .slice (some ⟨w4.heap.size + 1, 0, none⟩) 3 3, .slice (some ⟨w4.heap.size + 1 + 1, 0, none⟩) 3 3] 26) = X4 at hF ⊢
    have hs4 : X4.heap.size = w4.heap.size + 1 + 1 + 1 + 1 := by rw [← hX4]; simp
    have hL4X : Later w4 X4 := by rw [← hX4]; exact (((Later.alloc _ _).trans (Later.alloc _ _)).trans (Later.alloc _ _)).trans (Later.alloc _ _)
    have kb := box_newG X4 (.slice (some ⟨w4.heap.size + 1 + 1 + 1, 0, none⟩) 3 3) 46
    have hL5 := hL4X.trans (Later.alloc X4 (.cells #[.slice (some ⟨w4.heap.size + 1 + 1 + 1, 0, none⟩) 3 3] 46))
    have HFR := hid (show Rows2 (X4.alloc (.cells #[.slice (some ⟨w4.heap.size + 1 + 1 + 1, 0, none⟩) 3 3] 46)) (.slice (some ⟨w4.heap.size + 1 + 1 + 1, 0, none⟩) 3 3) formR from hF.rows.later (Later.alloc _ _))
    rw [hs4] at kb
    generalize X4.alloc (.cells #[.slice (some ⟨w4.heap.size + 1 + 1 + 1, 0, none⟩) 3 3] 46) = W5 at kb HFR hL5 ⊢
    obtain ⟨B, hB⟩ : ∃ B, w4.heap.size + 1 + 1 + 1 + 1 = B := ⟨_, rfl⟩
    obtain ⟨G, hG⟩ : ∃ B, w4.heap.size + 1 + 1 + 1 = B := ⟨_, rfl⟩
    rw [hB] at kb ⊢
    rw [hG] at kb HFR
    have HKB := hid kb
    have HI5 := hid (HI4.out.later hL5)
    have HL5 := hid (HL4.out.trans hL5)
    clear hF hX4 hs4 hL4X kb hL5 hB hG HI4 HL4
    go_wp2_with fail
    refine (drawBergMatrix_any v ys _ (HY.out.later (HL1.out.trans HL5.out))).mono ?_
    rintro e w6 ⟨j, rfl, hL6⟩
    have HL6 := hid (HL5.out.trans hL6)
    have HL56 := hid hL6
    clear hL6
    obtain ⟨om, hom⟩ : ∃ o, bergM j = o := ⟨_, rfl⟩
    obtain ⟨Z, hZm⟩ : ∃ r, om.getD [] = r := ⟨_, rfl⟩
    obtain ⟨tm, htm⟩ : ∃ t, om.isSome = t := ⟨_, rfl⟩
    obtain ⟨K, hK⟩ : ∃ N, Z.length = N := ⟨_, rfl⟩
    have HB1 := hid (fun w0 => mat_asG (by have h := implBergMatrix_any j w0; rw [hom] at h; exact h) hZm htm)
    have HB2 := hid (fun w0 => mat_asG (by have h := specBergMatrix_any j w0; rw [hom] at h; exact h) hZm htm)
    rw [hK] at HB1 HB2
    have HOM := hid hom
    have HZM := hid hZm
    have HTM := hid htm
    have HK := hid hK
    have htmm : (tm != tm) = false := by simp
    clear hom hZm htm hK
    go_wp2_with fail
    refine (HB1.out _).mono ?_
    rintro e w7 ⟨a7, c7, rfl, hr7, hL7⟩
    have HR7 := hid hr7
    have HL67 := hid hL7
    clear hr7 hL7
    go_wp2_with fail
    refine (HB2.out _).mono ?_
    rintro e w8 ⟨a8, c8, rfl, hr8, hL8⟩
    have HR8 := hid hr8
    have HL78 := hid hL8
    clear hr8 hL8
    go_upto_region 12 with fail
    have c13 := (Later.alloc w8 (.cells #[.slice a8 K c8] 46)).cell (HL78.out.cell (box_newG w7 (.slice a7 K c7) 46))
    have c15 := box_newG w8 (.slice a8 K c8) 46
    have HRA := hid (((HR7.out.later (Later.alloc w7 (.cells #[.slice a7 K c7] 46))).later HL78.out).later (Later.alloc w8 (.cells #[.slice a8 K c8] 46)))
    have HRB := hid (HR8.out.later (Later.alloc w8 (.cells #[.slice a8 K c8] 46)))
    have HL6W := hid (((HL67.out.trans (Later.alloc w7 (.cells #[.slice a7 K c7] 46))).trans HL78.out).trans (Later.alloc w8 (.cells #[.slice a8 K c8] 46)))
    generalize w8.alloc (.cells #[.slice a8 K c8] 46) = W at c13 c15 HRA HRB HL6W ⊢
    have HVS := hid (vSameLists_same (.slice a7 K c7) (.slice a8 K c8) Z W (by have h := HRA.out.1; rw [HK.out] at h; exact h) (by have h := HRB.out.1; rw [HK.out] at h; exact h))
    obtain ⟨B13, hB13⟩ : ∃ B, w7.heap.size = B := ⟨_, rfl⟩
    obtain ⟨B15, hB15⟩ : ∃ B, w8.heap.size = B := ⟨_, rfl⟩
    rw [hB13] at c13 ⊢
    rw [hB15] at c15 ⊢
    clear hB13 hB15 HRB HB1 HB2 HR7 HR8 HL67 HL78
    have HC13 := hid c13
    go_cut [107] (fun s wx => s = .bool false ∧ Later W wx)
    case first =>
      as_aux_lemma =>
      have hM : tm = (decide (0 ≤ j) && decide (j ≤ 2)) := by rw [← bergM_is, HOM.out, HTM.out]
      by_cases h0 : 0 ≤ j
      · by_cases h2 : j ≤ 2
        · obtain rfl : tm = true := by rw [hM]; simp [h0, h2]
          clear hM
          go_wp2_with (go_at_call 21; refine HVS.out.mono ?_; rintro e w9 ⟨rfl, n9, rfl⟩)
          go_meet
          case rel => exact ⟨rfl, Later.drewN _ _⟩
        · obtain rfl : tm = false := by rw [hM]; simp [h0, h2]
          clear hM
          go_wp2_with (go_at_call 21; refine HVS.out.mono ?_; rintro e w9 ⟨rfl, n9, rfl⟩)
          go_meet
          case rel => exact ⟨by rw [decide_eq_false (by omega)], Later.drewN _ _⟩
      · obtain rfl : tm = false := by rw [hM]; simp [h0]
        clear hM
        go_wp2_with (go_at_call 21; refine HVS.out.mono ?_; rintro e w9 ⟨rfl, n9, rfl⟩)
        go_meet
        case rel => exact ⟨rfl, Later.drewN _ _⟩
    case rest =>
    obtain ⟨rfl, hLW⟩ := hcut
    have HLW := hid hLW
    have HFW := hid ((HFR.out.later HL56.out).later (HL6W.out.trans hLW))
    have HGW := hid (HRA.out.later hLW)
    have HIW := hid ((HI5.out.later HL56.out).later (HL6W.out.trans hLW))
    have HL1W := hid (HL6.out.trans (HL6W.out.trans hLW))
    have kB := (HL6W.out.trans hLW).cell (HL56.out.cell HKB.out)
    have kC := hLW.cell HC13.out
    have HKB := hid kB
    clear hLW c13 c15 HVS HFR HRA HI5 HKB HC13 HL56 HL6W HL6 HL5 HLW htmm
    go_upto_if 108 with fail
    go_cut [] (fun wx => Later wc wx)
    case first =>
      cases tm
      · go_wp2_with fail
        go_meet
        case rel => exact Later.refl _
      · as_aux_lemma =>
        obtain ⟨M', hM'⟩ : ∃ q, om = some q := Option.isSome_iff_exists.1 HTM.out
        subst hM'
        obtain ⟨hk, hd, _, _⟩ := berg_keeps HOM.out
        have hz := HZM.out
        simp only [Option.getD_some] at hz
        subst hz
        have HKF := hid (fun w0 (h : Later wc w0) => bool_as9 (o := some true) (z := true) (t := true) (by have h := implKeepsForm_any (.slice a7 K c7) (.slice (some ⟨G, 0, none⟩) 3 3) M' formR w0 (by have h2 := (HGW.out.later h).1; rw [HK.out] at h2; exact h2) (HFW.out.later h); rw [hk] at h; exact h) rfl rfl)
        obtain ⟨dd, hdd, hdv⟩ : ∃ d : Int, detAns M' = some d ∧ (d = 1 ∨ d = -1) := by
          rcases hd with h | h
          · exact ⟨1, h, .inl rfl⟩
          · exact ⟨-1, h, .inr rfl⟩
        have HDT := hid (fun w0 (h : Later wc w0) => num_as9 (o := some dd) (z := dd) (t := true) (by have h := implDeterminantOf_any (.slice a7 K c7) M' w0 (by have h2 := (HGW.out.later h).1; rw [HK.out] at h2; exact h2); rw [hdd] at h; exact h) rfl rfl)
        clear hk hd hdd
        go_wp2_with fail
        refine (HKF.out _ (Later.refl _)).mono ?_
        rintro e wd ⟨rfl, hLd⟩
        have HLd := hid hLd
        replace kB := hLd.cell kB
        replace kC := hLd.cell kC
        clear hLd
        go_wp2_with fail
        refine (HDT.out _ HLd.out).mono ?_
        rintro e we ⟨rfl, hLe⟩
        have HLe := hid (HLd.out.trans hLe)
        clear hLe HKF HDT
        rcases hdv with rfl | rfl
        · go_wp2_with fail
          go_meet
          case rel => exact HLe.out
        · go_wp2_with fail
          go_meet
          case rel => exact HLe.out
    case rest =>
    have HIX := hid (HIW.out.later hcut)
    have HLX := hid (HL1W.out.trans hcut)
    clear hcut kB kC HIW HL1W HGW HFW HKB HOM HZM HTM HK
    go_upto_if 138 with fail
    go_cut [] (fun wx => Later wc wx)
    case first =>
      cases t
      · go_wp2_with fail
        go_meet
        case rel => exact Later.refl _
      · as_aux_lemma =>
        obtain ⟨q, hq⟩ : ∃ q, o = some q := Option.isSome_iff_exists.1 HT.out
        subst hq
        have hz := HZ.out
        simp only [Option.getD_some] at hz
        subst hz
        obtain ⟨m, n, hr, k0, k2, hp, hc, hpm, hzs⟩ := childAns_some HO.out
        obtain ⟨hpar, wo, hwo, hwc⟩ := child_backT treeBerg HO.out
        obtain ⟨M', hM'⟩ := bergM_some k0 k2
        have hap := berg_apply hM' hpm hp
        rw [← hzs, ← hc] at hap
        obtain ⟨X, hX⟩ : ∃ X, (bergC m n k).1 * (bergC m n k).1 - (bergC m n k).2 * (bergC m n k).2 = X := ⟨_, rfl⟩
        obtain ⟨Y, hY⟩ : ∃ X, 2 * (bergC m n k).1 * (bergC m n k).2 = X := ⟨_, rfl⟩
        obtain ⟨Z', hZ'⟩ : ∃ X, (bergC m n k).1 * (bergC m n k).1 + (bergC m n k).2 * (bergC m n k).2 = X := ⟨_, rfl⟩
        have hq3 : q = [X, Y, Z'] := by rw [hc, ← hX, ← hY, ← hZ']; rfl
        rw [hZ'] at hap
        have hw10 : wo.length ≤ 1000000 := by
          unfold wordAns at hwo
          rw [hr] at hwo
          simp only [Option.map_some, Option.some.injEq] at hwo
          rw [← hwo, List.length_reverse]
          have h1 := riwF_len bergU m.toNat m n
          have h2 := hpm.h7
          unfold riwL
          omega
        have HW10 := hid hw10
        obtain ⟨ad, e3, e4, d0, d1, d2⟩ := (show Ints wc (.slice a2 M c2) [X, Y, Z'] by rw [← hq3]; exact HIX.out).threeG
        subst e3
        subst e4
        have HAP := hid hap
        have HD2 := hid d2
        have HBM := hid (fun w0 => mat_asG (o := some M') (L := M') (t := true) (by have h := implBergMatrix_any k w0; rw [hM'] at h; exact h) rfl rfl)
        have HPA := hid (fun w0 (h : Later wc w0) => in_asG (o := some (zs, k)) (z := zs) (k := k) (t := true) (by have h := implBergParent_any _ q w0 (HIX.out.later h); rw [hpar] at h; exact h) rfl rfl rfl)
        have HWC := hid (fun w0 (h : Later wc w0) => ints_asG (o := some (wo ++ [k])) (z := wo ++ [k]) (t := true) (by have h := implBergWord_any _ q w0 (HIX.out.later h); rw [hwc] at h; exact h) rfl rfl)
        have HWT := hid (fun w0 (h : Later wc w0) => (show Calls Try.prog 31 #[.slice p1 N c1] w0 fun e w' => IntsAns w0 (some wo) e w' by have h := implBergWord_any _ zs w0 (HI.out.later (HLX.out.trans h)); rw [hwo] at h; exact h))
        have HAM := hid (fun w0 a5 c5 (h : Later wc w0) (h5 : RG w0 a5 c5 M') (hle : Z' ≤ 1000000) => ints_asG (o := some q) (z := q) (t := true) (by have h := implApplyMatrix_any (.slice a5 M'.length c5) (.slice p1 N c1) M' zs w0 h5.1 (HI.out.later (HLX.out.trans h)); rw [HAP.out hle] at h; exact h) rfl rfl)
        have hkk : (k != k) = false := by simp
        rw [HM.out] at HAM
        rw [HN.out] at HPA
        obtain ⟨K5, hK5⟩ : ∃ n, M'.length = n := ⟨_, rfl⟩
        obtain ⟨K6, hK6⟩ : ∃ n, wo.length = n := ⟨_, rfl⟩
        have HK6 := hid hK6
        rw [hK5] at HBM HAM
        simp only [List.length_append, List.length_cons, List.length_nil, Nat.zero_add, hK6] at HWC
        clear hr k0 k2 hp hc hpm hzs hpar hwo hwc hM' hap hX hY hZ' hq3 d0 d1 hK5 hK6 hw10
        go_wp2_with fail
        refine (HBM.out _).mono ?_
        rintro e w5 ⟨a5, c5, rfl, hr5, hL5⟩
        have HR5 := hid hr5
        have HL5 := hid hL5
        have kB := box_newG w5 (.slice a5 K5 c5) 46
        have HLB := hid (Later.alloc w5 (.cells #[.slice a5 K5 c5] 46))
        clear hr5 hL5
        go_wp2_with fail
        generalize w5.alloc (.cells #[.slice a5 K5 c5] 46) = w5b at kB HLB ⊢
        obtain ⟨B5, hB5⟩ : ∃ B, w5.heap.size = B := ⟨_, rfl⟩
        rw [hB5] at kB ⊢
        have HKB := hid kB
        have HL5b := hid (HL5.out.trans HLB.out)
        have HR5b := hid (HR5.out.later HLB.out)
        clear hB5 kB HBM
        refine (HPA.out _ HL5b.out).mono ?_
        rintro e w6 ⟨a6, c6, rfl, hi6, _, hL6⟩
        have HI6 := hid hi6
        have HL6 := hid hL6
        clear hi6 hL6 HPA
        go_wp2_with fail
        refine (HWC.out _ (HL5b.out.trans HL6.out)).mono ?_
        rintro e w7 ⟨a7, c7, rfl, hi7, _, hL7⟩
        have HI7 := hid hi7
        have HL7 := hid (HL6.out.trans hL7)
        have HI67 := hid (HI6.out.later hL7)
        clear hi7 hL7 HWC HI6 HL6
        go_wp2_with fail
        refine (HWT.out _ (HL5b.out.trans HL7.out)).mono ?_
        rintro e w8 ⟨v8, rfl, hO8, hL8⟩
        obtain ⟨a8, c8, rfl, _⟩ := hO8.shape
        rw [show (some wo).getD [] = wo from rfl, HK6.out] at hO8 ⊢
        have HO8 := hid hO8
        have HI68 := hid (HI67.out.later hL8)
        have HI78 := hid (HI7.out.later hL8)
        have HL8 := hid (HL7.out.trans hL8)
        clear hO8 hL8 HI67 HI7 HL7 HWT
        have HVP := hid (vSame_same (.slice a6 N c6) (.slice p1 N c1) zs w8 HI68.out (HI.out.later (HLX.out.trans (HL5b.out.trans HL8.out))))
        go_wp2_with fail
        refine HVP.out.mono ?_
        rintro e w9 ⟨rfl, n9, rfl⟩
        have HO9 := hid (HO8.out.later (Later.drewN w8 n9))
        have HI9 := hid (HI78.out.drewN n9)
        have HL9 := hid (HL8.out.trans (Later.drewN w8 n9))
        have hs9 : (w8.drewN n9).heap.size = w8.heap.size := by simp
        have HO9b := hid (show OwnInts 0 (w8.drewN n9).heap.size (w8.drewN n9) (.slice a8 K6 c8) wo from by rw [hs9]; exact HO9.out.wide (Nat.zero_le _) (Nat.le_refl _))
        generalize w8.drewN n9 = w9 at HO9b HI9 HL9 ⊢
        clear HVP HO8 HO9 HI68 HI78 HL8 hs9
        have HE9 := hid (ownInts_litG w9 w9.heap.size (Nat.le_refl _) [] (by simp))
        have HO9c := hid (HO9b.out.later (Later.alloc w9 (.cells #[] 3)))
        have HW0 := hid (show 0 + wo.length ≤ 1000000 by have := HW10.out; omega)
        go_wp2_with (at_builtin; refine wpList_unguardG (by rfl) ?_; refine wpList_catG (by rfl) _ _ (by rfl) w9.heap.size (w9.heap.size + 1) (w9.alloc (.cells #[] 3)) (.slice (some ⟨w9.heap.size, 0, none⟩) 0 0) (.slice a8 K6 c8) [] wo (by rfl) (by simp) (by simpa using HE9.out) (by simpa using HW0.out) (by rfl) (by exact HO9c.out.wide (Nat.le_refl _) (by simp)) ?_)
        intro pa na ca wa hOa hGa
        have HLa := hid (show Later w9 wa from (Later.alloc w9 (.cells #[] 3)).grown hGa (by simp) (fun b hb => by simp [Value.ownBlock] at hb; omega))
        have HOa := hid hOa
        clear hOa hGa HE9 HO9c HO9b HW0
        go_wp2_with (at_builtin; refine wpList_unguardG (by rfl) ?_; refine wpList_pushG (by rfl) _ _ (by rfl) w9.heap.size wa _ (.slice pa na ca) wo k (by rfl) HLa.out.size HOa.out HW10.out (by rfl) rfl ?_)
        intro gb cb wb hOb hGb _
        have HLb := hid (show Later w9 wb from HLa.out.grown hGb HLa.out.size HOa.out.ownG)
        rw [HK6.out] at hOb ⊢
        have HVW := hid (vSame_same (.slice a7 (K6 + 1) c7) (.slice (some ⟨gb, 0, none⟩) (K6 + 1) cb) (wo ++ [k]) wb (HI9.out.later HLb.out) (by have h := hOb.ints; exact h))
        clear hOb hGb HOa HLa
        go_wp2_with fail
        refine HVW.out.mono ?_
        rintro e w10 ⟨rfl, n10, rfl⟩
        have HL10 := hid (HL9.out.trans (HLb.out.trans (Later.drewN wb n10)))
        generalize wb.drewN n10 = w10 at HL10 ⊢
        clear HVW HLb HL9 HI9
        have kd2 := HL10.out.cell (HL5b.out.cell HD2.out)
        have kb5 := HL10.out.cell HKB.out
        have HLX10 := hid (HL5b.out.trans HL10.out)
        by_cases hle : Z' ≤ 1000000
        · have HM2 := hid (HAM.out w10 a5 c5 HLX10.out (HR5b.out.later HL10.out) hle)
          clear HAM HAP HR5b HR5 HL5 HLB
          go_wp2_with fail
          refine HM2.out.mono ?_
          rintro e w11 ⟨a11, c11, rfl, hi11, _, hL11⟩
          have HL11 := hid (HLX10.out.trans hL11)
          have HV3 := hid (vSame_same (.slice a11 3 c11) (.slice (some ad) 3 c2) q w11 hi11 (HIX.out.later HL11.out))
          clear hi11 hL11 HM2
          go_wp2_with fail
          refine HV3.out.mono ?_
          rintro e w12 ⟨rfl, n12, rfl⟩
          go_wp2_with fail
          go_meet
          case rel => exact HL11.out.trans (Later.drewN _ _)
        · clear HAM HAP HR5b HR5 HL5 HLB
          go_wp2_with fail
          go_meet
          case rel => exact HLX10.out
    case rest =>
    as_aux_lemma =>
    have HLZ := hid (HL1.out.trans (HLX.out.trans hcut))
    clear hcut HIX HLX HO HZ HT HN HM HI HOW htt hlen
    go_wp2_with fail
    refine (drawBergParent_any v ys _ (HY.out.later HLZ.out)).mono ?_
    rintro e wd ⟨u2, us, rfl, hO, hlen2, hLd⟩
    obtain ⟨p2, cc2, rfl, hcap⟩ := hO.shape
    have HU := hid hO.ints
    have HLd := hid (HLZ.out.trans hLd)
    clear hO hcap hLd HLZ
    obtain ⟨op, hop⟩ : ∃ o, parentAns bergU us = o := ⟨_, rfl⟩
    have HOP := hid hop
    obtain ⟨zp, hzp⟩ : ∃ r, (op.getD ([], 0)).1 = r := ⟨_, rfl⟩
    obtain ⟨kp, hkp⟩ : ∃ r, (op.getD ([], 0)).2 = r := ⟨_, rfl⟩
    obtain ⟨tp, htp⟩ : ∃ t, op.isSome = t := ⟨_, rfl⟩
    obtain ⟨N2, hN2⟩ : ∃ N, us.length = N := ⟨_, rfl⟩
    obtain ⟨M2, hM2⟩ : ∃ N, zp.length = N := ⟨_, rfl⟩
    have HP1 := hid (fun w0 (h : Later wd w0) => in_asG (by have h := implBergParent_any _ us w0 (HU.out.later h); rw [hop] at h; exact h) hzp hkp htp)
    have HP2 := hid (fun w0 (h : Later wd w0) => in_asG (by have h := specBergParent_any _ us w0 (HU.out.later h); rw [hop] at h; exact h) hzp hkp htp)
    obtain ⟨tr, htr⟩ : ∃ t, (rightP us).isSome = t := ⟨_, rfl⟩
    have HRI := hid (fun w0 (h : Later wd w0) => implIsRight_as _ us tr htr w0 (HU.out.later h))
    have HN2 := hid hN2
    have HM2 := hid hM2
    have HZP := hid hzp
    have HKP := hid hkp
    have HTP := hid htp
    have HTR := hid htr
    rw [hN2] at HU HP1 HP2 HRI ⊢
    rw [hM2] at HP1 HP2
    have htt : (tp != tp) = false := by simp
    have hkk : (kp != kp) = false := by simp
    clear hop hzp hkp htp hN2 hM2 htr hlen2
    go_wp2_with fail
    refine (HP1.out _ (Later.refl _)).mono ?_
    rintro e we ⟨a3', c3', rfl, hi3, hc3, hLe⟩
    have HI3 := hid hi3
    have HC3 := hid hc3
    have HLe := hid hLe
    clear hi3 hc3 hLe
    go_wp2_with fail
    refine (HP2.out _ HLe.out).mono ?_
    rintro e wf ⟨a4', c4', rfl, hi4, _, hLf⟩
    have HLf := hid (HLe.out.trans hLf)
    have HI4 := hid (HI3.out.later hLf)
    have HV := hid (vSame_same (.slice a3' M2 c3') (.slice a4' M2 c4') zp wf HI4.out hi4)
    clear hi4 hLf HLe HI3 HP1 HP2
    go_upto_region 33 with fail
    go_cut [253] (fun s wx => s = .bool false ∧ Later wf wx)
    case first =>
      as_aux_lemma =>
      cases hr : rightP us with
      | none =>
        have e1 : tr = false := by rw [← HTR.out, hr]; rfl
        have e2 : tp = false := by rw [← HTP.out, ← HOP.out, parentAns_no hr]; rfl
        subst e1 e2
        clear hr
        go_wp2_with fail
        refine HV.out.mono ?_
        rintro e wg ⟨rfl, ng, rfl⟩
        go_wp2_with fail
        refine (HRI.out _ (HLf.out.trans (Later.drewN _ _))).mono ?_
        rintro e wh ⟨rfl, hLh⟩
        have HLh := hid ((Later.drewN wf ng).trans hLh)
        clear hLh
        go_wp2_with fail
        go_meet
        case rel => exact ⟨rfl, HLh.out⟩
      | some p =>
        obtain ⟨m, n⟩ := p
        obtain ⟨hp, hus⟩ := right_some hr
        have e1 : tr = true := by rw [← HTR.out, hr]; rfl
        obtain ⟨Z', hZ'⟩ : ∃ X, m * m + n * n = X := ⟨_, rfl⟩
        have h5 := five_root' hp
        rw [hZ'] at h5
        have HU3 := HU.out
        rw [hus] at HU3
        obtain ⟨ad, e3, e4, _, _, d2⟩ := (show Ints wd (.slice p2 N2 cc2) [m * m - n * n, 2 * m * n, m * m + n * n] from HU3).threeG
        rw [hZ'] at d2
        subst e3 e4
        have HD2 := hid d2
        by_cases hm : m ≤ 2
        · have e2 : tp = false := by rw [← HTP.out, ← HOP.out, parentAns_root hr hm]; rfl
          have hz5 : Z' = 5 := h5.2 hm
          subst e1 e2 hz5
          clear hr h5 hus hp HU3 d2 hm
          go_wp2_with fail
          refine HV.out.mono ?_
          rintro e wg ⟨rfl, ng, rfl⟩
          go_wp2_with fail
          refine (HRI.out _ (HLf.out.trans (Later.drewN _ _))).mono ?_
          rintro e wh ⟨rfl, hLh⟩
          have HLh := hid ((Later.drewN wf ng).trans hLh)
          have kd := HLh.out.cell (HLf.out.cell HD2.out)
          clear hLh
          go_wp2_with fail
          go_meet
          case rel => exact ⟨rfl, HLh.out⟩
        · have e2 : tp = true := by rw [← HTP.out, ← HOP.out, parentAns_yes hr (by omega)]; rfl
          have hz5 : (Z' != 5) = true := by simp only [bne_iff_ne]; exact fun e => hm (h5.1 e)
          subst e1 e2
          clear hr h5 hus hp HU3 d2 hm
          go_wp2_with fail
          refine HV.out.mono ?_
          rintro e wg ⟨rfl, ng, rfl⟩
          go_wp2_with fail
          refine (HRI.out _ (HLf.out.trans (Later.drewN _ _))).mono ?_
          rintro e wh ⟨rfl, hLh⟩
          have HLh := hid ((Later.drewN wf ng).trans hLh)
          have kd := HLh.out.cell (HLf.out.cell HD2.out)
          clear hLh
          go_wp2_with fail
          go_meet
          case rel => exact ⟨rfl, HLh.out⟩
    case rest =>
    obtain ⟨rfl, hLg⟩ := hcut
    have HLg := hid (HLf.out.trans hLg)
    have HI5 := hid (HI4.out.later hLg)
    clear hLg HLf HI4 HV HRI htt hkk
    cases tp
    · go_wp2_with fail
      go_ret
      exact ⟨rfl, HLd.out.trans HLg.out⟩
    · obtain ⟨q, hq⟩ : ∃ q, op = some q := Option.isSome_iff_exists.1 HTP.out
      subst hq
      obtain ⟨qz, qk⟩ := q
      have h1 := HZP.out
      have h2 := HKP.out
      simp only [Option.getD_some] at h1 h2
      subst h1 h2
      obtain ⟨hch, m, n, a', b', hus, hqz, hp, hpa, hlt, hua, hub⟩ := parent_backT treeBerg HOP.out
      have hm2 : 2 < m := by have := hpa.h1; have := hpa.h2; omega
      have hzl := berg_z hp hm2
      rw [hua, hub] at hzl
      obtain ⟨Z1, hZ1⟩ : ∃ X, a' * a' + b' * b' = X := ⟨_, rfl⟩
      obtain ⟨Z2, hZ2⟩ : ∃ X, m * m + n * n = X := ⟨_, rfl⟩
      rw [hZ1, hZ2] at hzl
      have HU3 := HU.out
      rw [hus] at HU3
      obtain ⟨ad, e3, e4, _, _, d2⟩ := (show Ints wd (.slice p2 N2 cc2) [m * m - n * n, 2 * m * n, m * m + n * n] from HU3).threeG
      subst e3 e4
      have HW3 := HI5.out
      rw [hqz] at HW3
      obtain ⟨ae, e5, e6, _, _, f2⟩ := (show Ints wc (.slice a3' M2 c3') [a' * a' - b' * b', 2 * a' * b', a' * a' + b' * b'] from HW3).threeG
      subst e5 e6
      rw [hZ2] at d2
      rw [hZ1] at f2
      have HD2 := hid d2
      have HF2 := hid f2
      have HBC := hid (fun w0 (h : Later wc w0) => ints_asG (o := some us) (z := us) (t := true) (by have h := implBergChild_any (.slice (some ae) 3 c3') qz qk w0 (HI5.out.later h); rw [hch] at h; exact h) rfl rfl)
      rw [HN2.out] at HBC
      clear hch hus hqz hp hpa hlt hua hub hm2 hZ1 hZ2 HU3 HW3 d2 f2
      go_wp2_with fail
      refine (HBC.out _ (Later.refl _)).mono ?_
      rintro e wg ⟨a9, c9, rfl, hi9, _, hL9⟩
      have HL9 := hid hL9
      have HI9 := hid hi9
      clear hi9 hL9
      have HVQ := hid (fun m => vSame_same (.slice a9 3 c9) (.slice (some ad) 3 cc2) us _ (HI9.out.drewN m) ((HU.out.later (HLg.out.trans HL9.out)).drewN m))
      have kz1 := HL9.out.cell HF2.out
      have kz2 := (HLg.out.trans HL9.out).cell HD2.out
      go_wp2_with fail
      go_quiet ((go_at_call 11; exact Calls.quiet_of (HVQ.out _)))
      go_wp2_with fail
      go_ret
      exact ⟨by simp, HLd.out.trans (HLg.out.trans (HL9.out.trans (Later.drewN _ _)))⟩
  · go_wp2_with fail
    go_ret
    exact ⟨rfl, Later.refl _⟩
end Go.Proofs.Ytdahhcigphhfdac
