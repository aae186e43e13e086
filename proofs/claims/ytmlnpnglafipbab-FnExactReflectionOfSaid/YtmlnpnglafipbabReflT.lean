/- ReflectionOf, the model's. -/
import Derived.Test.YtmlnpnglafipbabReflS
namespace Go.Proofs.Ytmlnpnglafipbab
open Go.RowKit

set_option maxRecDepth 20000 in
set_option maxHeartbeats 4000000 in
theorem specReflectionOf_any (u v : Value) (F : List (List Int)) (zs : List Int) (w : World) (hu : Rows2 w u F) (hv : Ints w v zs) :
    Calls Try.prog 33 #[.agg #[u], v] w fun e w' => MatAns w (reflAns F zs) e w' := by
  obtain ⟨a, cap, rfl, hl, _⟩ := id hu
  obtain ⟨b, cap2, rfl, hl2, _⟩ := id hv
  have hA := (Later.alloc w (.cells #[Value.slice a F.length cap] 42)).trans (Later.alloc _ (.cells #[Value.slice none 0 0] 42))
  have hb0 : ((w.alloc (.cells #[Value.slice a F.length cap] 42)).alloc (.cells #[Value.slice none 0 0] 42)).cell? ⟨w.heap.size, 0, none⟩ = some (.slice a F.length cap) := by simp [go_sem]
  have hb2 : Box ((w.alloc (.cells #[Value.slice a F.length cap] 42)).alloc (.cells #[Value.slice none 0 0] 42)) (w.heap.size + 1) (.slice none 0 0) := ⟨by simp [go_sem], by simp [go_sem]⟩
  have hs : w.heap.size + 2 ≤ ((w.alloc (.cells #[Value.slice a F.length cap] 42)).alloc (.cells #[Value.slice none 0 0] 42)).heap.size := by simp
  have HU := hid (hu.later hA)
  have HV := hid (hv.later hA)
  have HL := hid hA
  clear hu hv hA
  go_enter Try.func33, Try.ntmps33
  go_wp2_with fail
  generalize (w.alloc (.cells #[Value.slice a F.length cap] 42)).alloc (.cells #[Value.slice none 0 0] 42) = w1 at hb0 hb2 hs HU HV HL ⊢
  refine (foForm_any _ F _ HU.out).mono ?_
  rintro e w2 ⟨rfl, hL⟩
  replace hb0 := hL.cell hb0
  replace hb2 := hb2.later hL
  have HU2 := hid (HU.out.later hL)
  have HV2 := hid (HV.out.later hL)
  have HL2 := hid (HL.out.trans hL)
  have hs2 := hid (Nat.le_trans hs hL.size)
  clear hL HU HV HL hs
  cases hgf : formW F
  · have HM := hid (reflAns_none (prodAns_no (F := F) (zs := zs) (by rw [hgf]; rfl)))
    obtain ⟨hc2, hf2⟩ := hb2
    clear hgf
    go_wp2_with fail
    have hc3 : (w2.setCell ⟨w.heap.size + 1, 0, none⟩ (.slice none 0 0)).cell? ⟨w.heap.size + 1, 0, none⟩ = some (.slice none 0 0) := World.cell?_setCell_same _ _ _ hc2
    refine bodyPost_ret (v := .tuple #[.agg #[.slice none 0 0], .bool false]) ?_ rfl ⟨_, by rw [HM.out]; rfl, by rw [HM.out]; exact OwnRows.empty _ _ _, ?_⟩
    · simp [results, Try.results33, go_sem, hc3]
    · exact (show Later w _ from Below.setCell HL2.out (by show w.heap.size ≤ w.heap.size + 1; omega) _)
  · have HGF := hid hgf
    have hmv : matVec F zs = vecOK F.length zs := by unfold matVec; rw [(formW_good hgf).2]; rfl
    have HB2 := hid hb2
    clear hb2
    go_wp2_with fail
    refine (foVector_any _ _ F zs _ HU2.out HV2.out).mono ?_
    rintro e w3 ⟨rfl, hL⟩
    rw [hmv]
    replace hb0 := hL.cell hb0
    have HB3 := hid (HB2.out.later hL)
    have HU3 := hid (HU2.out.later hL)
    have HV3 := hid (HV2.out.later hL)
    have HL3 := hid (HL2.out.trans hL)
    have hs3 := hid (Nat.le_trans hs2.out hL.size)
    clear hL HU2 HV2 HL2 hmv
    cases hvo : vecOK F.length zs
    · have HM := hid (reflAns_none (prodAns_no (F := F) (zs := zs) (by rw [hvo]; simp)))
      obtain ⟨hc2, hf2⟩ := HB3.out
      clear hgf hvo
      go_wp2_with fail
      have hc3 : (w3.setCell ⟨w.heap.size + 1, 0, none⟩ (.slice none 0 0)).cell? ⟨w.heap.size + 1, 0, none⟩ = some (.slice none 0 0) := World.cell?_setCell_same _ _ _ hc2
      refine bodyPost_ret (v := .tuple #[.agg #[.slice none 0 0], .bool false]) ?_ rfl ⟨_, by rw [HM.out]; rfl, by rw [HM.out]; exact OwnRows.empty _ _ _, ?_⟩
      · simp [results, Try.results33, go_sem, hc3]
      · exact (show Later w _ from Below.setCell HL3.out (by show w.heap.size ≤ w.heap.size + 1; omega) _)
    · have hPA := prodAns_yes (F := F) (zs := zs) (by rw [hgf, hvo]; rfl)
      have hsq := goodM_sq (formW_good hgf).2
      have hzl : zs.length = F.length := by unfold vecOK at hvo; rw [Bool.and_eq_true, decide_eq_true_eq] at hvo; exact hvo.1
      have HSQ := hid hsq
      have HZL := hid hzl
      have hn4 : zs.length ≤ 4 := by have := hsq.2.1; omega
      obtain ⟨q, hq⟩ : ∃ q, dotW zs (applyW F zs) = q := ⟨_, rfl⟩
      rw [hq] at hPA
      have HPA := hid hPA
      have HFP := hid (fun w0 (h1 : Rows2 w0 (.slice a F.length cap) F) (h2 : Ints w0 (.slice b zs.length cap2) zs) => foProduct_any F.length F HSQ.out.2.2 (by have := HSQ.out.2.1; omega) zs zs HZL.out HZL.out _ _ _ w0 h1 h2 h2)
      rw [hq] at HFP
      clear hgf hvo hsq hzl hPA hq
      go_wp2_with fail
      refine (HFP.out _ HU3.out HV3.out).mono ?_
      rintro e w4 ⟨rfl, hL⟩
      replace hb0 := hL.cell hb0
      have HB4 := hid (HB3.out.later hL)
      have HU4 := hid (HU3.out.later hL)
      have HV4 := hid (HV3.out.later hL)
      have HL4 := hid (HL3.out.trans hL)
      have hs4 := hid (Nat.le_trans hs3.out hL.size)
      clear hL HU3 HV3 HL3
      by_cases hq0 : q = 0
      · subst hq0
        have HM := hid (reflAns_zero HPA.out)
        obtain ⟨hc2, hf2⟩ := HB4.out
        go_wp2_with fail
        have hc3 : (w4.setCell ⟨w.heap.size + 1, 0, none⟩ (.slice none 0 0)).cell? ⟨w.heap.size + 1, 0, none⟩ = some (.slice none 0 0) := World.cell?_setCell_same _ _ _ hc2
        refine bodyPost_ret (v := .tuple #[.agg #[.slice none 0 0], .bool false]) ?_ rfl ⟨_, by rw [HM.out]; rfl, by rw [HM.out]; exact OwnRows.empty _ _ _, ?_⟩
        · simp [results, Try.results33, go_sem, hc3]
        · exact (show Later w _ from Below.setCell HL4.out (by show w.heap.size ≤ w.heap.size + 1; omega) _)
      · have hqd : (q == 0) = false := by simp [hq0]
        have HQ := hid hq0
        clear hq0
        go_wp2_with fail
        refine (foUnit_any zs.length _ (by omega)).mono ?_
        rintro e w5 ⟨v5, rfl, ho, hL⟩
        obtain ⟨a5, c5, rfl, _⟩ := ho.shape
        have hul : (unitM zs.length).length = zs.length := mk_length _ _
        rw [hul] at ho ⊢
        have hA6 := Later.alloc w5 (.cells #[Value.slice a5 zs.length c5] 42)
        have hbx : (w5.alloc (.cells #[Value.slice a5 zs.length c5] 42)).cell? ⟨w5.heap.size, 0, none⟩ = some (.slice a5 zs.length c5) := by simp [go_sem]
        have ho6 := ho.later hA6
        have hl6 := hL.trans hA6
        have hsz6 : (w5.alloc (.cells #[Value.slice a5 zs.length c5] 42)).heap.size = w5.heap.size + 1 := by simp
        have h45 := hL.size
        replace hb0 := hl6.cell hb0
        have HU6 := hid (HU4.out.later hl6)
        have HV6 := hid (HV4.out.later hl6)
        clear ho hL hA6 HU4
        go_wp2_with fail
        generalize w5.alloc (.cells #[Value.slice a5 zs.length c5] 42) = w6 at hbx ho6 hl6 hsz6 hb0 HU6 HV6 ⊢
        refine (foApply_any F.length F HSQ.out.2.2 (by have := HSQ.out.2.1; omega) zs HZL.out _ _ _ HU6.out HV6.out).mono ?_
        rintro e w7 ⟨v7, rfl, hop, hL7⟩
        obtain ⟨a7, c7, rfl, _⟩ := hop.shape
        have hpl : (applyW F zs).length = zs.length := by simp [applyW, HZL.out]
        obtain ⟨ps, hps⟩ : ∃ ps, applyW F zs = ps := ⟨_, rfl⟩
        have HPS := hid hps
        rw [hps] at hop hpl ⊢
        have HO7 := hid (show OwnRows w4.heap.size w5.heap.size w7 (.slice a5 zs.length c5) (mk zs.length (reflSt q zs ps 0 0)) by rw [reflSt_zero]; exact ho6.later hL7)
        have HBX := hid (hL7.cell hbx)
        have HL7 := hid (hl6.trans hL7)
        have HP7 := hid (show ∀ j, j < zs.length → ∃ g, a7 = some ⟨g, 0, none⟩ ∧ w5.heap.size < g ∧ w7.cell? ⟨g, j, none⟩ = some (.int .i64 (ps.getD j 0)) from fun j hj => by
          obtain ⟨g, cg, e1, h1, _, h3, _⟩ := hop.cell (i := j) (by omega)
          simp only [Value.slice.injEq] at e1
          exact ⟨g, e1.1, by omega, h3⟩)
        have HZ7 := hid (show ∀ i, i < zs.length → ∃ ad, b = some ad ∧ ad.block < w4.heap.size ∧ w7.cell? (ad.add i) = some (.int .i64 (zs.getD i 0)) from fun i hi => by
          obtain ⟨b', cc, e1, _, hc⟩ := HV4.out
          simp only [Value.slice.injEq, true_and] at e1
          obtain ⟨rfl, _⟩ := e1
          obtain ⟨ad, e2, hx⟩ := hc i hi
          exact ⟨ad, e2, by have := World.block_lt_of_cell? w4 _ hx; rwa [add_block] at this, HL7.out.cell hx⟩)
        have H45 := hid h45
        rw [hpl] at hop ⊢
        clear hb0 hps ho6 hop hL7 hl6 hbx HU6 HV6 HV4
        go_wp2_with fail
        go_loopw [36] (fun x wr => ∃ j : Nat, j ≤ zs.length ∧ x = .int .i64 j ∧ OwnRows w4.heap.size w5.heap.size wr (.slice a5 zs.length c5) (mk zs.length (reflSt q zs ps 0 j)) ∧ Wrote (fun b => w4.heap.size ≤ b ∧ b < w5.heap.size) w7 wr ∧ ∀ s t, t < j → s < zs.length → wholeAt q (zs.getD s 0) (ps.getD t 0) = true)
          (fun x _ => zs.length - (intOf x).toNat)
        case atStart => exact ⟨0, Nat.zero_le _, rfl, HO7.out, Wrote.refl _ _, fun s t h => by omega⟩
        case round =>
          clear HO7
          obtain ⟨j, hj, rfl, hO, hW, hall⟩ := hrel
          have HOj := hid hO
          have HWj := hid hW
          have HALL := hid hall
          clear hO hall
          by_cases hjt : j < zs.length
          · obtain ⟨g, rfl, hg, hcp⟩ := HP7.out j hjt
            have hcpr := cell_keep hcp (hW.block g (by omega))
            obtain ⟨p, hp⟩ : ∃ p, ps.getD j 0 = p := ⟨_, rfl⟩
            rw [hp] at hcpr
            have HPJ := hid hp
            clear hW hcp hp
            go_wp2_with fail
            go_loopw [43] (fun x wr => ∃ i : Nat, i ≤ zs.length ∧ x = .int .i64 i ∧ OwnRows w4.heap.size w5.heap.size wr (.slice a5 zs.length c5) (mk zs.length (reflSt q zs ps i j)) ∧ Wrote (fun b => w4.heap.size ≤ b ∧ b < w5.heap.size) w7 wr ∧ ∀ s, s < i → wholeAt q (zs.getD s 0) (ps.getD j 0) = true)
              (fun x _ => zs.length - (intOf x).toNat)
            case atStart => exact ⟨0, Nat.zero_le _, rfl, HOj.out, HWj.out, fun s h => by omega⟩
            case round =>
              clear HOj HWj hcpr
              obtain ⟨i, hi, rfl, hO, hW, hall⟩ := hrel
              have HWi := hid hW
              have HAL := hid hall
              clear hall
              by_cases hit : i < zs.length
              · obtain ⟨ad, rfl, hblk, hz⟩ := HZ7.out i hit
                have hzr := cell_keep hz (hW.block _ (by rw [add_block]; omega))
                have hbxr := cell_keep HBX.out (hW.block w5.heap.size (by omega))
                have HBr := hid ((HB4.out.later HL7.out).keep (hW.block (w.heap.size + 1) (by have := hs4.out; omega)))
                have HTK := hid (takenAt_swap (zs.getD i 0) (ps.getD j 0))
                have HWH := hid (show wholeAt q (zs.getD i 0) (ps.getD j 0) = ((takenAt (ps.getD j 0) (zs.getD i 0)).tmod q == 0) by rw [← HTK.out]; rfl)
                have HRF := hid (show reflAt q (zs.getD i 0) (ps.getD j 0) i j = wrap64 (eqI i j - wrap64 ((takenAt (ps.getD j 0) (zs.getD i 0)).tdiv q)) by rw [← HTK.out]; rfl)
                have HUP := hid (reflSt_step q zs ps i j)
                have htr : wrap64 (wrap64 (2 * ps.getD j 0) * zs.getD i 0) = takenAt (ps.getD j 0) (zs.getD i 0) := rfl
                obtain ⟨x, hx⟩ : ∃ x, zs.getD i 0 = x := ⟨_, rfl⟩
                have hp := HPJ.out
                have HX := hid hx
                rw [hx, hp] at HWH HRF HUP htr
                rw [hx] at hzr
                obtain ⟨t, ht⟩ : ∃ t, takenAt p x = t := ⟨_, rfl⟩
                rw [ht] at HWH HRF htr
                obtain ⟨r, hr⟩ : ∃ r, t.tmod q = r := ⟨_, rfl⟩
                rw [hr] at HWH
                have z0 : ¬ q = 0 := HQ.out
                have hi2 : (i : Int) < (zs.length : Int) := by omega
                have hj2 : (j : Int) < (zs.length : Int) := by omega
                clear hx hp ht hz HTK
                by_cases hr0 : r = 0
                · have hb : (r != 0) = false := by simp [hr0]
                  have HONE := hid (show wholeAt q (zs.getD i 0) (ps.getD j 0) = true by rw [HX.out, HPJ.out, HWH.out]; simp [hr0])
                  have hd := Later.drew wr
                  obtain ⟨g2, cg2, gu, cu, hv, k1, k2, hcg, hcu, hfu, hset⟩ := (hO.later hd).at2 i j hit hjt
                  simp only [Value.slice.injEq, true_and] at hv
                  obtain ⟨rfl, rfl⟩ := hv
                  rw [reflSt_at] at hcu
                  obtain ⟨d, hdd⟩ : ∃ d, t.tdiv q = d := ⟨_, rfl⟩
                  rw [hdd] at HRF
                  obtain ⟨e, hee⟩ : ∃ e, eqI i j = e := ⟨_, rfl⟩
                  rw [hee] at hcu HRF
                  have hst := hset (wrap64 (e - wrap64 d))
                  rw [← HRF.out, HUP.out] at hst
                  have hbxd := hd.cell hbxr
                  have HWd := hid (hW.trans (show Wrote (fun b => w4.heap.size ≤ b ∧ b < w5.heap.size) wr wr.drew from ⟨rfl, rfl, rfl, rfl, fun _ _ => rfl⟩))
                  rw [HRF.out] at hst
                  have HST := hid (And.intro hst.1 (HWd.out.trans hst.2))
                  clear hset hst hO hW hr0 hee HWd
                  go_wp2_with fail
                  go_still_tail 16, (by kernel_rfl)
                  change wpList _ _ _ _ _ wr.drew
                  generalize wr.drew = wd at *
                  go_wp2_with fail
                  go_roundw
                  case rel => exact ⟨i + 1, hit, by go_num, HST.out.1, HST.out.2, fun s h => by
                    rcases Nat.lt_succ_iff_lt_or_eq.mp h with h | rfl
                    · exact HAL.out s h
                    · exact HONE.out⟩
                  case measure => simp [intOf]; omega
                · have hb : (r != 0) = true := by simp [hr0]
                  have hone : wholeAt q (zs.getD i 0) (ps.getD j 0) = false := by rw [HX.out, HPJ.out, HWH.out]; simp [hr0]
                  have HM := hid (reflAns_part HPA.out (by rw [← HZL.out, HPS.out]; exact wholeN_one i j hit hjt hone))
                  obtain ⟨hc2, hf2⟩ := HBr.out
                  have HLr := hid (show Later w wr from Wrote.below (HL4.out.trans HL7.out) HWi.out (fun k hk => by have := hs4.out; omega))
                  clear hr0 hone hO hW
                  go_wp2_with fail
                  have hc3 : (wr.setCell ⟨w.heap.size + 1, 0, none⟩ (.slice none 0 0)).cell? ⟨w.heap.size + 1, 0, none⟩ = some (.slice none 0 0) := World.cell?_setCell_same _ _ _ hc2
                  refine bodyPost_ret (v := .tuple #[.agg #[.slice none 0 0], .bool false]) ?_ rfl ⟨_, by rw [HM.out]; rfl, by rw [HM.out]; exact OwnRows.empty _ _ _, ?_⟩
                  · simp [results, Try.results33, go_sem, hc3]
                  · exact (show Later w _ from Below.setCell HLr.out (by show w.heap.size ≤ w.heap.size + 1; omega) _)
              · have hin : i = zs.length := by omega
                have HO2 := hid hO
                have HW2 := hid hW
                have HA2 := hid (fun s (h : s < zs.length) => HAL.out s (by omega))
                rw [hin, reflSt_next] at HO2
                clear hO hW
                go_wp2_with fail
                go_roundw
                case rel => exact ⟨j + 1, hjt, by go_num, HO2.out, HW2.out, fun s t ht hs => by
                  rcases Nat.lt_succ_iff_lt_or_eq.mp ht with h | rfl
                  · exact HALL.out s t h hs
                  · exact HA2.out s hs⟩
                case measure => simp [intOf]; omega
          · have hjn : j = zs.length := by omega
            have HO2 := hid HOj.out
            rw [hjn, reflSt_full] at HO2
            have HM := hid (reflAns_yes HPA.out HQ.out (by rw [← HZL.out, HPS.out]; exact wholeN_all fun s t hs ht => HALL.out s t (by omega) hs))
            have hbxr := cell_keep HBX.out (HWj.out.block w5.heap.size (by omega))
            have HBr := hid ((HB4.out.later HL7.out).keep (HWj.out.block (w.heap.size + 1) (by have := hs4.out; omega)))
            have HLr := hid (show Later w _ from Wrote.below (HL4.out.trans HL7.out) HWj.out (fun k hk => by have := hs4.out; omega))
            have h5r : w5.heap.size < _ := World.block_lt_of_cell? _ _ hbxr
            clear HOj HWj
            go_wp2_with fail
            refine (foIf_any _ (reflM zs.length q zs ps) _ HO2.out.rows).mono ?_
            rintro e w8 ⟨rfl, hL⟩
            obtain ⟨hc2, hf2⟩ := HBr.out.later hL
            have HL8 := hid (HLr.out.trans hL)
            have hs5 := HL4.out.size
            have hs8 := (HBr.out.later hL).lt
            have HO8 := hid ((HO2.out.later hL).wide (Nat.le_refl _) (Nat.le_of_lt (Nat.lt_of_lt_of_le h5r hL.size)))
            clear hL
            have HMl := hid (mk_length zs.length (fun a b => reflAt q (zs.getD a 0) (ps.getD b 0) a b))
            rw [← HZL.out, HPS.out] at HM
            cases hgi : goodM 1000000 (reflM zs.length q zs ps)
            · have HI := hid (show ifGood (reflM zs.length q zs ps) = none by unfold ifGood; rw [hgi]; rfl)
              clear hgi
              go_wp2_with fail
              have hc3 : (w8.setCell ⟨w.heap.size + 1, 0, none⟩ (.slice none 0 0)).cell? ⟨w.heap.size + 1, 0, none⟩ = some (.slice none 0 0) := World.cell?_setCell_same _ _ _ hc2
              refine bodyPost_ret (v := .tuple #[.agg #[.slice none 0 0], .bool false]) ?_ rfl ⟨_, by rw [HM.out, HI.out]; rfl, by rw [HM.out, HI.out]; exact OwnRows.empty _ _ _, ?_⟩
              · simp [results, Try.results33, go_sem, hc3]
              · exact (show Later w _ from Below.setCell HL8.out (by show w.heap.size ≤ w.heap.size + 1; omega) _)
            · have HI := hid (show ifGood (reflM zs.length q zs ps) = some (reflM zs.length q zs ps) by unfold ifGood; rw [hgi]; rfl)
              clear hgi
              go_wp2_with fail
              have hc3 : (w8.setCell ⟨w.heap.size + 1, 0, none⟩ (.slice a5 zs.length c5)).cell? ⟨w.heap.size + 1, 0, none⟩ = some (.slice a5 zs.length c5) := World.cell?_setCell_same _ _ _ hc2
              refine bodyPost_ret (v := .tuple #[.agg #[.slice a5 zs.length c5], .bool true]) ?_ rfl ⟨_, by rw [HM.out, HI.out]; rfl, ?_, ?_⟩
              · simp [results, Try.results33, go_sem, hc3]
              · rw [HM.out, HI.out]
                exact (HO8.out.setCell (a := ⟨w.heap.size + 1, 0, none⟩) (by have := hs4.out; simp; omega) _).wide hs5 (by simp [World.setCell])
              · exact (show Later w _ from Below.setCell HL8.out (by show w.heap.size ≤ w.heap.size + 1; omega) _)
end Go.Proofs.Ytmlnpnglafipbab
