/- CgS: in one text. -/
import Derived.Test.YtljikcajfmnnmabUpA
import Derived.Test.YtljikcajfmnnmabUpQa
namespace Go.Proofs.Ytljikcajfmnnmab
open Go.RowKit


set_option maxRecDepth 100000 in
set_option maxHeartbeats 4000000 in
theorem upS_no1 (v : Value) (L : List Ci4) (most : Int) (w : World) (h : Cis w v L) (hc : confB L = false) :
    Calls Try.prog 34 #[v, .int .i64 most] w fun e w' => CisAns w none e w' := by
  obtain ⟨a, cap, rfl, _⟩ := id h
  have H := hid h
  have HF := hid hc
  clear h
  go_enter Try.func34, Try.ntmps34
  go_wp2_with fail
  refine (ciConfig_as _ L false _ H.out HF.out).mono ?_
  rintro e w2 ⟨rfl, hL⟩
  have HL2 := hid hL
  clear hL
  go_wp2_with fail
  have HLZ := hid HL2.out
  go_ret2
  exact ⟨_, rfl, OwnCis.nothing _ _ _, HLZ.out⟩
set_option maxRecDepth 100000 in
set_option maxHeartbeats 4000000 in
theorem upS_no2 (v : Value) (L : List Ci4) (most : Int) (w : World) (h : Cis w v L) (hc : confB L = true) (hw : within 1 60 most = false) :
    Calls Try.prog 34 #[v, .int .i64 most] w fun e w' => CisAns w none e w' := by
  obtain ⟨a, cap, rfl, _⟩ := id h
  have H := hid h
  have HF := hid hc
  have HN := hid (fourB_len (confB_four hc))
  have HW := hid hw
  clear h
  go_enter Try.func34, Try.ntmps34
  go_wp2_with fail
  refine (ciConfig_as _ L true _ H.out HF.out).mono ?_
  rintro e w2 ⟨rfl, hL⟩
  have HL2 := hid hL
  clear hL
  go_wp2_with fail
  refine (l1In_any _ _ _ _).mono ?_
  rintro e w3 ⟨rfl, rfl⟩
  rw [HW.out]
  go_wp2_with fail
  have HLZ := hid HL2.out
  go_ret2
  exact ⟨_, rfl, OwnCis.nothing _ _ _, HLZ.out⟩
set_option maxRecDepth 100000 in
set_option maxHeartbeats 4000000 in
theorem upS_no3 (v : Value) (L : List Ci4) (most : Int) (w : World) (h : Cis w v L) (hc : confB L = true) (hw : within 1 60 most = true) (hb : apB (curvL L) = false) :
    Calls Try.prog 34 #[v, .int .i64 most] w fun e w' => CisAns w none e w' := by
  obtain ⟨a, cap, rfl, _⟩ := id h
  have H := hid h
  have HF := hid hc
  have HN := hid (fourB_len (confB_four hc))
  have HW := hid hw
  have HB := hid hb
  clear h
  go_enter Try.func34, Try.ntmps34
  go_wp2_with fail
  refine (ciConfig_as _ L true _ H.out HF.out).mono ?_
  rintro e w2 ⟨rfl, hL⟩
  have HL2 := hid hL
  clear hL
  go_wp2_with fail
  refine (l1In_any _ _ _ _).mono ?_
  rintro e w3 ⟨rfl, rfl⟩
  rw [HW.out]
  go_wp2_with fail
  refine (ciCurvatures_any _ L _ (by have := HN.out; omega) (H.out.later HL2.out)).mono ?_
  rintro e w3 ⟨q, rfl, hO, hL⟩
  have HL3 := hid (HL2.out.trans hL)
  have HQ := hid hO.ints
  clear hO hL
  go_wp2_with fail
  refine (apGood_as _ (curvL L) false _ HB.out HQ.out).mono ?_
  rintro e w4 ⟨rfl, rfl⟩
  go_wp2_with fail
  have HLZ := hid HL3.out
  go_ret2
  exact ⟨_, rfl, OwnCis.nothing _ _ _, HLZ.out⟩
set_option maxRecDepth 100000 in
set_option maxHeartbeats 4000000 in
theorem upS_no4 (v : Value) (L : List Ci4) (most : Int) (w : World) (h : Cis w v L) (hc : confB L = true) (hw : within 1 60 most = true) (hb : apB (curvL L) = true) (hl : lastQ (curvL L) = false) :
    Calls Try.prog 34 #[v, .int .i64 most] w fun e w' => CisAns w none e w' := by
  obtain ⟨a, cap, rfl, _⟩ := id h
  have H := hid h
  have HF := hid hc
  have HN := hid (fourB_len (confB_four hc))
  have HW := hid hw
  have HB := hid hb
  have HD := hid (show downIx (curvL L) = (gIx (curvL L) : Int) by unfold downIx; rw [hl]; rfl)
  have hd0 : decide ((0 : Int) ≤ (gIx (curvL L) : Int)) = true := by simp
  clear h
  go_enter Try.func34, Try.ntmps34
  go_wp2_with fail
  refine (ciConfig_as _ L true _ H.out HF.out).mono ?_
  rintro e w2 ⟨rfl, hL⟩
  have HL2 := hid hL
  clear hL
  go_wp2_with fail
  refine (l1In_any _ _ _ _).mono ?_
  rintro e w3 ⟨rfl, rfl⟩
  rw [HW.out]
  go_wp2_with fail
  refine (ciCurvatures_any _ L _ (by have := HN.out; omega) (H.out.later HL2.out)).mono ?_
  rintro e w3 ⟨q, rfl, hO, hL⟩
  have HL3 := hid (HL2.out.trans hL)
  have HQ := hid hO.ints
  clear hO hL
  go_wp2_with fail
  refine (apGood_as _ (curvL L) true _ HB.out HQ.out).mono ?_
  rintro e w4 ⟨rfl, rfl⟩
  go_wp2_with fail
  refine (apDown_zs _ (curvL L) _ HB.out HQ.out).mono ?_
  rintro e w5 ⟨rfl, hL⟩
  have HL5 := hid (HL3.out.trans hL)
  have HQ5 := hid (HQ.out.later hL)
  clear hL
  rw [HD.out]
  go_wp2_with fail
  have HLZ := hid HL5.out
  go_ret2
  exact ⟨_, rfl, OwnCis.nothing _ _ _, HLZ.out⟩
set_option maxRecDepth 100000 in
set_option maxHeartbeats 4000000 in
theorem upS_no5 (v : Value) (L : List Ci4) (most : Int) (w : World) (h : Cis w v L) (hc : confB L = true) (hw : within 1 60 most = true) (hb : apB (curvL L) = true) (hl : lastQ (curvL L) = true) (hs : 0 ≤ (sortU (curvL L)).getD 0 0) :
    Calls Try.prog 34 #[v, .int .i64 most] w fun e w' => CisAns w none e w' := by
  obtain ⟨a, cap, rfl, _⟩ := id h
  have H := hid h
  have HF := hid hc
  have HN := hid (fourB_len (confB_four hc))
  have HW := hid hw
  have HB := hid hb
  have HD := hid (show downIx (curvL L) = -1 by unfold downIx; rw [hl]; rfl)
  obtain ⟨s0, hs0⟩ : ∃ s, (sortU (curvL L)).getD 0 0 = s := ⟨_, rfl⟩
  have HS := hid hs0
  rw [hs0] at hs
  have hd0 : decide ((0 : Int) ≤ s0) = true := decide_eq_true hs
  clear hs0
  clear h
  go_enter Try.func34, Try.ntmps34
  go_wp2_with fail
  refine (ciConfig_as _ L true _ H.out HF.out).mono ?_
  rintro e w2 ⟨rfl, hL⟩
  have HL2 := hid hL
  clear hL
  go_wp2_with fail
  refine (l1In_any _ _ _ _).mono ?_
  rintro e w3 ⟨rfl, rfl⟩
  rw [HW.out]
  go_wp2_with fail
  refine (ciCurvatures_any _ L _ (by have := HN.out; omega) (H.out.later HL2.out)).mono ?_
  rintro e w3 ⟨q, rfl, hO, hL⟩
  have HL3 := hid (HL2.out.trans hL)
  have HQ := hid hO.ints
  clear hO hL
  go_wp2_with fail
  refine (apGood_as _ (curvL L) true _ HB.out HQ.out).mono ?_
  rintro e w4 ⟨rfl, rfl⟩
  go_wp2_with fail
  refine (apDown_zs _ (curvL L) _ HB.out HQ.out).mono ?_
  rintro e w5 ⟨rfl, hL⟩
  have HL5 := hid (HL3.out.trans hL)
  have HQ5 := hid (HQ.out.later hL)
  clear hL
  rw [HD.out]
  go_wp2_with fail
  refine (apSorted_any _ (curvL L) _ (by have := HN.out; simp [curvL]; omega) HQ5.out).mono ?_
  rintro e w6 ⟨u, rfl, hO, hL⟩
  have HL6 := hid (HL5.out.trans hL)
  obtain ⟨ua, uc, rfl, _, huc⟩ := hO.ints
  obtain ⟨ud, rfl, hu0⟩ := huc 0 (by rw [sortU_len]; simp [curvL, HN.out])
  rw [show ud.add 0 = ud by simp [Addr.add], HS.out] at hu0
  have hul : (0 : Int) < ((sortU (curvL L)).length : Int) := by rw [sortU_len]; simp [curvL, HN.out]
  clear hO hL huc
  go_wp2_with fail
  have HLZ := hid HL6.out
  go_ret2
  exact ⟨_, rfl, OwnCis.nothing _ _ _, HLZ.out⟩
set_option maxRecDepth 100000 in
set_option maxHeartbeats 8000000 in
theorem upS_yes (v : Value) (L : List Ci4) (most : Int) (w : World) (h : Cis w v L) (hc : confB L = true) (hw : within 1 60 most = true) (hb : apB (curvL L) = true) (hl : lastQ (curvL L) = true) (hs : (sortU (curvL L)).getD 0 0 < 0) (hok : upOk L most = true) :
    Calls Try.prog 34 #[v, .int .i64 most] w fun e w' => CisAns w (upAns L most) e w' := by
  obtain ⟨a, cap, rfl, hx0⟩ := id h
  clear hx0
  have hn4 := fourB_len (confB_four hc)
  rw [hn4] at h ⊢
  obtain ⟨g, rfl, hx0⟩ := h.at 0 (by omega)
  clear hx0
  have H := hid h
  have HF := hid hc
  have HN := hid hn4
  have HW := hid hw
  have HB := hid hb
  have HOK := hid hok
  have HG := hid (h.lt4 hn4)
  have HD := hid (show downIx (curvL L) = -1 by unfold downIx; rw [hl]; rfl)
  obtain ⟨s0, hs0⟩ : ∃ s, (sortU (curvL L)).getD 0 0 = s := ⟨_, rfl⟩
  have HS := hid hs0
  rw [hs0] at hs
  have hd0 : decide ((0 : Int) ≤ s0) = false := decide_eq_false (by omega)
  clear hs0 h hn4 hc hw hb hl hok hs
  go_enter Try.func34, Try.ntmps34
  go_wp2_with fail
  refine (ciConfig_as _ L true _ H.out HF.out).mono ?_
  rintro e w2 ⟨rfl, hL⟩
  have HL2 := hid hL
  clear hL
  go_wp2_with fail
  refine (l1In_any _ _ _ _).mono ?_
  rintro e w3 ⟨rfl, rfl⟩
  rw [HW.out]
  go_wp2_with fail
  refine (ciCurvatures_any _ L _ (by have := HN.out; omega) (H.out.later HL2.out)).mono ?_
  rintro e w3 ⟨q, rfl, hO, hL⟩
  have HL3 := hid (HL2.out.trans hL)
  have HQ := hid hO.ints
  clear hO hL
  go_wp2_with fail
  refine (apGood_as _ (curvL L) true _ HB.out HQ.out).mono ?_
  rintro e w4 ⟨rfl, rfl⟩
  go_wp2_with fail
  refine (apDown_zs _ (curvL L) _ HB.out HQ.out).mono ?_
  rintro e w5 ⟨rfl, hL⟩
  have HL5 := hid (HL3.out.trans hL)
  have HQ5 := hid (HQ.out.later hL)
  clear hL
  rw [HD.out]
  go_wp2_with fail
  refine (apSorted_any _ (curvL L) _ (by have := HN.out; simp [curvL]; omega) HQ5.out).mono ?_
  rintro e w6 ⟨u, rfl, hO, hL⟩
  have HL6 := hid (HL5.out.trans hL)
  obtain ⟨ua, uc, rfl, _, huc⟩ := hO.ints
  obtain ⟨ud, rfl, hu0⟩ := huc 0 (by rw [sortU_len]; simp [curvL, HN.out])
  rw [show ud.add 0 = ud by simp [Addr.add], HS.out] at hu0
  have hul : (0 : Int) < ((sortU (curvL L)).length : Int) := by rw [sortU_len]; simp [curvL, HN.out]
  clear hO hL huc
  go_wp2_with fail
  clear hd0 hu0 hul HD HS HQ HQ5 HL2 HL3 HL5
  obtain ⟨i0, hi0, hz0, hz1, hz2⟩ := info_parts Try.infoCi
  go_loopw [7, 41] (fun o i wr => ∃ k : Nat, k ≤ 4 ∧ i = .int .i64 k ∧ OwnCis w6.heap.size wr.heap.size wr o (toldTo most L k) ∧ Later w6 wr) (fun _ i _ => 4 - (intOf i).toNat)
  case atStart => exact ⟨0, by omega, rfl, OwnCis.nothing _ _ _, Later.refl _⟩
  case round =>
    obtain ⟨k, hk, rfl, hO, hL⟩ := hrel
    by_cases hlt : k < 4
    · have hkI : (k : Int) < 4 := by omega
      obtain ⟨g', e', c0, c1, c2, c3⟩ := ((H.out.later HL6.out).later hL).at k (by rw [HN.out]; exact hlt)
      simp only [Option.some.injEq, Addr.mk.injEq, and_true] at e'
      subst e'
      have HST := hid (toldTo_step most L k (by rw [HN.out]; exact hlt))
      have HTL := hid (toldTo_len most L k)
      obtain ⟨t, ht⟩ : ∃ t, L.getD k c00 = t := ⟨_, rfl⟩
      obtain ⟨F, hF⟩ : ∃ F, toldTo most L k = F := ⟨_, rfl⟩
      rw [ht] at HST c0 c1 c2 c3
      rw [hF] at HST HTL hO
      obtain ⟨p, q, r, s⟩ := t
      simp only at c0 c1 c2 c3
      have hA := Later.alloc wr (.cells #[.int .i64 p, .int .i64 q, .int .i64 r, .int .i64 s] 50)
      have HO := hid (hO.later hA)
      have HLA := hid (hL.trans hA)
      have HLr := hid hL
      have HSA := hid hA.size
      have HOL := hid hO
      clear ht hF hO hL hA
      cases hb : ciTold most (p, q, r, s)
      · rw [hb] at HST
        have HS2 := hid (show toldTo most L (k + 1) = F by rw [HST.out]; rfl)
        have hdq : decide (q ≤ most) = false := hb
        clear hb HST
        go_wp2_with fail
        go_roundw
        case rel => exact ⟨k + 1, by omega, by go_num, by rw [HS2.out]; exact HO.out.wide (Nat.le_refl _) HSA.out, HLA.out⟩
        case measure => simp [intOf]; omega
      · rw [hb] at HST
        have HS2 := hid (show toldTo most L (k + 1) = F ++ [(p, q, r, s)] by rw [HST.out]; rfl)
        have hdq : decide (q ≤ most) = true := hb
        clear hb HST
        have HOw := hid (HO.out.1.alloc (.cells #[.int .i64 p, .int .i64 q, .int .i64 r, .int .i64 s] 50))
        have HLB := hid (HLA.out.trans (Later.alloc (wr.alloc (.cells #[.int .i64 p, .int .i64 q, .int .i64 r, .int .i64 s] 50)) (.cells #[.int .i64 p, .int .i64 q, .int .i64 r, .int .i64 s] 50)))
        have HWS := hid HLr.out.size
        have hFl : F.length ≤ 4 := by have := HTL.out; omega
        obtain ⟨o1, o2, rfl, _⟩ := HO.out.shape
        go_wp2_with (at_builtin; refine wpList_append_lies _ (by rfl) _ _ _ (by rfl) w6.heap.size 50 i0 (.agg #[.int .i64 0, .int .i64 0, .int .i64 0, .int .i64 0]) 4 32 Try.underlying22 hi0 hz0 hz1 hz2 rfl (by omega) _ F.length (ciCells F) (by rfl) (by exact HOw.out) ⟨wr.heap.size + 1, 0, none⟩ 1 1 [.int .i64 p, .int .i64 q, .int .i64 r, .int .i64 s] (by rfl) (by rfl) (World.news_of_block (cs := #[.int .i64 p, .int .i64 q, .int .i64 r, .int .i64 s]) (t := 50) (fr := (0, 0)) (by have := heap_alloc_new (wr.alloc (.cells #[.int .i64 p, .int .i64 q, .int .i64 r, .int .i64 s] 50)) (.cells #[.int .i64 p, .int .i64 q, .int .i64 r, .int .i64 s] 50); simpa using this)) (by simp [Value.oneCell']) (by omega) (by unfold maxLen; omega) (by omega) (by have := HWS.out; simp; omega) (wr.heap.size + 1 + 1) (by simp) ?_)
        intro g5 cap5 w7 hown hgrow hat hglt
        have HP := hid (show OwnCis w6.heap.size w7.heap.size w7 (.slice (some ⟨g5, 0, none⟩) (F.length + 1) cap5) (F ++ [(p, q, r, s)]) from ⟨by rw [ciCells_snoc, List.length_append]; exact hown, fun b hb => by simp [Value.ownBlock] at hb; subst hb; exact hglt⟩)
        have HLn := hid (show Later w6 w7 from HLB.out.grown hgrow HLB.out.size (fun b hb => (HOw.out.lt b hb).1))
        clear hown hgrow hat hglt
        go_wp2_with fail
        go_roundw
        case rel => exact ⟨k + 1, by omega, by go_num, by rw [HS2.out]; exact HP.out, HLn.out⟩
        case measure => simp [intOf]; omega
    · obtain rfl : k = 4 := by omega
      have HO := hid hO
      have HL := hid hL
      clear hO hL
      go_wp2_with fail
      have HA := hid (Later.alloc wr (.cells #[.slice (some ⟨g, 0, none⟩) 4 cap, .int .i64 (-1)] 73))
      have HO2 := hid ((HO.out.later HA.out).wide (Nat.le_refl _) HA.out.size)
      have HL2 := hid (HL.out.trans HA.out)
      have HN2 := hid (show OwnF w6.heap.size (wr.alloc (.cells #[.slice (some ⟨g, 0, none⟩) 4 cap, .int .i64 (-1)] 73)).heap.size (wr.alloc (.cells #[.slice (some ⟨g, 0, none⟩) 4 cap, .int .i64 (-1)] 73)) (.slice (some ⟨wr.heap.size, 0, none⟩) 1 1) [(g, cap, L, -1)] from
        ⟨by have := World.ownsRow_lit (base := w6.heap.size) (e := 73) (size := 2) wr #[.slice (some ⟨g, 0, none⟩) 4 cap, .int .i64 (-1)] 1 HL.out.size (by unfold maxLen; omega) rfl; simpa [fCells, fVs] using this, fun b hb => by simp [Value.ownBlock] at hb ⊢; omega⟩)
      have HGB := hid (show g < w6.heap.size by have := HG.out; have := HL6.out.size; omega)
      have HG0 := hid (show GN (wr.alloc (.cells #[.slice (some ⟨g, 0, none⟩) 4 cap, .int .i64 (-1)] 73)) u7 (.slice (some ⟨wr.heap.size, 0, none⟩) 1 1) (g, cap, L, -1) from
        ⟨(H.out.later HL6.out).later HL2.out, HN.out, conf_bd HF.out, fun e => by have := (HO.out.1.lt g e).1; have := HGB.out; omega, fun e => by simp [Value.ownBlock] at e; have := HGB.out; have := HL.out.size; omega⟩)
      have HT0 := hid (toldTo_len most L 4)
      have HT1 := hid (told_ciB HF.out most 4)
      have HRE := hid (show toldTo most L 4 ++ bfsT most 13121 [(L, -1)] = upR L most from rfl)
      obtain ⟨o, ho⟩ : ∃ o, upAns L most = o := ⟨_, rfl⟩
      have HSTOP := hid (fun (T tl : List Ci4) (t : Ci4) (h1 : T ++ [t] ++ tl = upR L most) (h2 : ciB t = false ∨ T.length = 300) => ho.symm.trans (up_stop h1 h2))
      have HALL := hid (fun (T : List Ci4) (h1 : T = upR L most) (h2 : T.length ≤ 300) (h3 : T.all ciB = true) => ho.symm.trans (up_all HOK.out h1 h2 h3))
      clear hk hlt
      generalize toldTo most L 4 = T0 at HO2 HT0 HT1 HRE
      generalize wr.alloc (.cells #[.slice (some ⟨g, 0, none⟩) 4 cap, .int .i64 (-1)] 73) = w8 at HO2 HL2 HN2 HG0 ⊢
      obtain ⟨q0, hq0⟩ : ∃ q, wr.heap.size = q := ⟨_, rfl⟩
      rw [hq0] at HN2 HG0 ⊢
      have HOE := hid ho
      clear hq0 HO HL HA HG HGB ho
      go_loopw [7, 10, 11] (fun o v n wr => ∃ (j : Nat) (T : List Ci4) (seen pend : List FNode), n = .int .i64 j ∧ seen.length = j ∧ (seen ++ pend).length ≤ 1 + T.length ∧ T.length ≤ 300 ∧ T.all ciB = true ∧ T ++ bfsT most (13121 - j) (pend.map (·.2.2)) = upR L most ∧ OwnCis w6.heap.size wr.heap.size wr o T ∧ OwnF w6.heap.size wr.heap.size wr v (seen ++ pend) ∧ (∀ x ∈ seen ++ pend, GN wr o v x) ∧ Later w6 wr) (fun _ _ n _ => 301 - (intOf n).toNat)
      case atStart => exact ⟨0, T0, [], [(g, cap, L, -1)], rfl, rfl, by simp, by have := HT0.out; omega, HT1.out, HRE.out, HO2.out, HN2.out, (fun x hx => by simp at hx; subst hx; exact HG0.out), HL2.out⟩
      case round =>
        clear HO2 HL2 HN2 HG0 HT0 HT1 HRE
        obtain ⟨j, T, seen, pend, rfl, hsl, hql, hTl, hTa, hR, hO, hN, hGN, hL⟩ := hrel
        cases pend with
        | nil =>
          rw [List.append_nil] at hN
          rw [List.map_nil, bfs_nil, List.append_nil] at hR
          obtain ⟨a9, c9, rfl⟩ := hN.shape
          rw [hsl]
          have HA := hid (HOE.out.trans (HALL.out T hR hTl hTa))
          have HO := hid (hO.wide HL6.out.size (Nat.le_refl _))
          have HLX := hid (HL6.out.trans hL)
          clear hN hL hO hGN hTl hTa hql hsl hR
          go_wp2_with fail
          go_ret2
          exact ⟨_, by rw [HA.out]; rfl, by rw [HA.out]; exact HO.out, HLX.out⟩
        | cons x rest =>
          obtain ⟨gx, cx, nd⟩ := x
          have hj : j < 301 := by simp at hql; omega
          obtain ⟨f, hf⟩ : ∃ f, 13121 - j = f + 1 := ⟨13121 - j - 1, by omega⟩
          rw [hf, List.map_cons, bfs_cons, ← List.append_assoc] at hR
          have HF1 := hid (show 13121 - (j + 1) = f by omega)
          have hjl : j < (seen ++ (gx, cx, nd) :: rest).length := by simp; omega
          have hgj : (seen ++ (gx, cx, nd) :: rest)[j] = (gx, cx, nd) := by
            rw [List.getElem_append_right (by omega)]
            simp [hsl]
          have HSL := hid hsl
          have HRR := hid hR
          obtain ⟨Q, hQ⟩ : ∃ Q, seen ++ (gx, cx, nd) :: rest = Q := ⟨_, rfl⟩
          have HQE := hid (fun (K : List FNode) => show (seen ++ [(gx, cx, nd)]) ++ (rest ++ K) = Q ++ K by rw [← hQ]; simp)
          have HMEM := hid (show (gx, cx, nd) ∈ Q by rw [← hQ]; simp)
          have HJQ : Hid (∀ (K : List FNode), ∃ h : j < (Q ++ K).length, (Q ++ K)[j] = (gx, cx, nd)) := hid (fun K => by
            subst hQ
            exact ⟨by rw [List.length_append]; omega, by rw [List.getElem_append_left hjl]; exact hgj⟩)
          have hjb : (j : Int) < 301 := by omega
          have HPRE := hid (fun (k : Nat) (t : Ci4) (hk : k < 4) (hy : newsTo most nd (k + 1) = newsTo most nd k ++ [t]) => show ∃ tl, (T ++ newsTo most nd k) ++ [t] ++ tl = upR L most from by
            obtain ⟨tl, ht⟩ := news_head most nd (4 - (k + 1)) (k + 1) (by omega)
            exact ⟨tl ++ bfsT most f (rest.map (·.2.2) ++ kidsTo most nd 4), by rw [← hR, ht, hy]; simp only [List.append_assoc]⟩)
          obtain ⟨gv, cv, rfl⟩ := hN.form (by simp; omega)
          rw [hQ] at hN hGN hql hjl ⊢
          have hjI0 : (j : Int) < (Q.length : Int) := by omega
          have HO := hid hO
          have HN := hid hN
          have HL := hid hL
          have HGN := hid hGN
          have HQL := hid hql
          have HTL := hid hTl
          have HTA := hid hTa
          clear hO hN hL hGN hql hTl hTa hR hf hsl hj hgj hQ hjl
          go_wp2_with fail
          go_loopw [7, 10, 12] (fun o v i wr => ∃ (k : Nat) (kids : List FNode), k ≤ 4 ∧ i = .int .i64 k ∧ kids.map (·.2.2) = kidsTo most nd k ∧ (Q ++ kids).length ≤ 1 + (T ++ newsTo most nd k).length ∧ (T ++ newsTo most nd k).length ≤ 300 ∧ (T ++ newsTo most nd k).all ciB = true ∧ OwnCis w6.heap.size wr.heap.size wr o (T ++ newsTo most nd k) ∧ OwnF w6.heap.size wr.heap.size wr v (Q ++ kids) ∧ (∀ x ∈ Q ++ kids, GN wr o v x) ∧ Later w6 wr) (fun _ _ i _ => 4 - (intOf i).toNat)
          case atStart => exact ⟨0, [], by omega, rfl, rfl, by simpa [newsTo] using HQL.out, by simpa [newsTo] using HTL.out, by simpa [newsTo] using HTA.out, by simpa [newsTo] using HO.out, by simpa using HN.out, by simpa using HGN.out, HL.out⟩
          case round =>
            clear HO HN HL HGN HQL HTL HTA hjI0
            obtain ⟨k, kids, hk, rfl, hkm, hql, hTl, hTa, hO, hN, hGN, hL⟩ := hrel
            obtain ⟨hjl, hgj⟩ := HJQ.out kids
            have HKM := hid hkm
            have HQL := hid hql
            have HTL := hid hTl
            have HTA := hid hTa
            by_cases hlt : k < 4
            · have hkI : (k : Int) < 4 := by omega
              have hgx := hGN _ (List.mem_append_left kids HMEM.out)
              obtain ⟨gq, cq, rfl⟩ := hN.form (by omega)
              obtain ⟨q0', q1'⟩ := hN.cells rfl j hjl
              rw [hgj] at q0' q1'
              simp only at q0' q1'
              obtain ⟨F, hF⟩ : ∃ F, T ++ newsTo most nd k = F := ⟨_, rfl⟩
              obtain ⟨G, hG⟩ : ∃ G, Q ++ kids = G := ⟨_, rfl⟩
              have HFE := hid hF
              have HGE := hid hG
              rw [hG] at hN hGN hjl hql ⊢
              rw [hF] at hO hql hTl hTa
              have hjI : (j : Int) < (G.length : Int) := by omega
              obtain ⟨l, hl⟩ : ∃ l, nd.2 = l := ⟨_, rfl⟩
              rw [hl] at q1'
              have HLL := hid hl
              have HGX := hid hgx
              have HO := hid hO
              have HN := hid hN
              have HL := hid hL
              have HGN := hid hGN
              have HFL := hid (And.intro hql hTl)
              have HFA := hid hTa
              obtain ⟨o1, o2, rfl, _⟩ := hO.shape
              clear hl hF hG hO hN hL hGN hgx hgj hkm hql hTl hTa hjl
              by_cases hkl : (k : Int) = l
              · have HNK := hid (news_no (most := most) (nd := nd) (k := k) (fun h => h.1 (by rw [HLL.out]; exact hkl)))
                go_wp2_with fail
                go_roundw
                case rel => exact ⟨k + 1, kids, by omega, by go_num, by rw [HNK.out.2]; exact HKM.out, by rw [HNK.out.1]; exact HQL.out, by rw [HNK.out.1]; exact HTL.out, by rw [HNK.out.1]; exact HTA.out, by rw [HNK.out.1, HFE.out]; exact HO.out, by rw [HGE.out]; exact HN.out, by rw [HGE.out]; exact HGN.out, HL.out⟩
                case measure => simp [intOf]; omega
              · go_wp2_with fail
                refine (ciSwap_any _ nd.1 k _ hlt HGX.out.len HGX.out.bd HGX.out.cis).mono ?_
                rintro e w7 ⟨v4, rfl, hO4, hL7⟩
                obtain ⟨L2, hL2⟩ : ∃ L2, ciSwL nd.1 k = L2 := ⟨_, rfl⟩
                have HLEN := hid (show L2.length = 4 by rw [← hL2]; exact swL_len4 _ _ HGX.out.len)
                have HSAME := hid (show L2.getD k c00 = ciNew nd.1 k by rw [← hL2]; exact swL_same _ _ HGX.out.len hlt)
                have HL2E := hid hL2
                rw [hL2] at hO4
                obtain ⟨g4, c4, rfl⟩ : ∃ g4 c4, v4 = .slice (some ⟨g4, 0, none⟩) 4 c4 := by
                  rcases hO4.form with ⟨_, e⟩ | ⟨g, c, e⟩
                  · have := HLEN.out; rw [e] at this; simp at this
                  · exact ⟨g, c, by rw [e, HLEN.out]⟩
                obtain ⟨g', e', c0, c1, c2, c3⟩ := hO4.cis.at k (by rw [HLEN.out]; exact hlt)
                simp only [Option.some.injEq, Addr.mk.injEq, and_true] at e'
                subst e'
                rw [HSAME.out] at c0 c1 c2 c3
                obtain ⟨t, ht⟩ : ∃ t, ciNew nd.1 k = t := ⟨_, rfl⟩
                have HT := hid ht
                rw [ht] at c0 c1 c2 c3
                obtain ⟨p, q, r, s⟩ := t
                simp only at c0 c1 c2 c3
                have HO4 := hid hO4
                have HL7 := hid hL7
                clear hL2 hO4 hL7 ht q0' q1'
                cases hb : ciTold most (p, q, r, s)
                · have HNK := hid (news_no (most := most) (nd := nd) (k := k) (fun h => by have h2 := h.2; rw [HT.out, hb] at h2; cases h2))
                  have hdq : decide (most < q) = true := decide_eq_true (by simp [ciTold] at hb; omega)
                  have HO7 := hid ((HO.out.later HL7.out).wide (Nat.le_refl _) HL7.out.size)
                  have HN7 := hid ((HN.out.later HL7.out).wide HL7.out.size)
                  have HLZ := hid (HL.out.trans HL7.out)
                  clear hb
                  go_wp2_with fail
                  go_roundw
                  case rel => exact ⟨k + 1, kids, by omega, by go_num, by rw [HNK.out.2]; exact HKM.out, by rw [HNK.out.1]; exact HQL.out, by rw [HNK.out.1]; exact HTL.out, by rw [HNK.out.1]; exact HTA.out, by rw [HNK.out.1, HFE.out]; exact HO7.out, by rw [HGE.out]; exact HN7.out, by rw [HGE.out]; exact (fun x hx => (HGN.out x hx).later HL7.out), HLZ.out⟩
                  case measure => simp [intOf]; omega
                · have HNK := hid (news_yes (most := most) (nd := nd) (k := k) ⟨fun h => hkl (by rw [← HLL.out]; exact h), by rw [HT.out]; exact hb⟩)
                  rw [HT.out, HL2E.out] at HNK
                  have hdq : decide (most < q) = false := decide_eq_false (by simp [ciTold] at hb; omega)
                  clear hb
                  have HPR := hid (HPRE.out k (p, q, r, s) hlt HNK.out.1)
                  rw [HFE.out] at HPR
                  cases hg : ciB (p, q, r, s)
                  · have HGD := hid (fun w => ciGood_as p q r s false w hg)
                    have HA := hid (show upAns L most = none by obtain ⟨tl, h1⟩ := HPR.out; exact HOE.out.trans (HSTOP.out F tl _ h1 (.inl hg)))
                    clear hg
                    go_wp2_with fail
                    refine (HGD.out _).mono ?_
                    rintro e w8 ⟨rfl, hL8⟩
                    have HLZ := hid ((HL6.out.trans (HL.out.trans HL7.out)).trans hL8)
                    clear hL8
                    go_wp2_with fail
                    go_ret2
                    exact ⟨_, by rw [HA.out]; rfl, by rw [HA.out]; exact OwnCis.nothing _ _ _, HLZ.out⟩
                  · have HGD := hid (fun w => ciGood_as p q r s true w hg)
                    have HCB := hid hg
                    clear hg
                    by_cases h300 : F.length = 300
                    · have HA := hid (show upAns L most = none by obtain ⟨tl, h1⟩ := HPR.out; exact HOE.out.trans (HSTOP.out F tl _ h1 (.inr h300)))
                      have hdl : ((F.length : Int) == 300) = true := by simp; omega
                      go_wp2_with fail
                      refine (HGD.out _).mono ?_
                      rintro e w8 ⟨rfl, hL8⟩
                      have HLZ := hid ((HL6.out.trans (HL.out.trans HL7.out)).trans hL8)
                      clear hL8
                      go_wp2_with fail
                      go_ret2
                      exact ⟨_, by rw [HA.out]; rfl, by rw [HA.out]; exact OwnCis.nothing _ _ _, HLZ.out⟩
                    · have hdl : ((F.length : Int) == 300) = false := by simp; omega
                      have hfl : F.length ≤ 300 := HFL.out.2
                      have hgl : G.length ≤ 301 := by have := HFL.out.1; omega
                      go_wp2_with fail
                      refine (HGD.out _).mono ?_
                      rintro e w8 ⟨rfl, hL8⟩
                      have HL8 := hid (HL7.out.trans hL8)
                      have HO48 := hid (HO4.out.later hL8)
                      have d0 := hL8.cell c0
                      have d1 := hL8.cell c1
                      have d2 := hL8.cell c2
                      have d3 := hL8.cell c3
                      clear c0 c1 c2 c3 hL8
                      have HFN := hid (show T ++ newsTo most nd (k + 1) = F ++ [(p, q, r, s)] by rw [HNK.out.1, ← HFE.out, List.append_assoc])
                      have HA8 := hid (Later.alloc w8 (.cells #[.int .i64 p, .int .i64 q, .int .i64 r, .int .i64 s] 50))
                      have HOw := hid ((HO.out.later HL8.out).1.alloc (.cells #[.int .i64 p, .int .i64 q, .int .i64 r, .int .i64 s] 50))
                      have HOC := hid (show OwnCis w6.heap.size wr.heap.size (w8.alloc (.cells #[.int .i64 p, .int .i64 q, .int .i64 r, .int .i64 s] 50)) (.slice o1 F.length o2) F from ⟨HOw.out, HO.out.2⟩)
                      have HN8 := hid ((HN.out.later HL8.out).later HA8.out)
                      have HL18 := hid ((HL.out.trans HL8.out).trans HA8.out)
                      have HWS := hid (HL.out.trans HL8.out).size
                      have HX4 := hid (show GN (w8.alloc (.cells #[.int .i64 p, .int .i64 q, .int .i64 r, .int .i64 s] 50)) (.slice o1 F.length o2) (.slice (some ⟨gq, 0, none⟩) G.length cq) (g4, c4, (L2, (k : Int))) from
                        ⟨(HO48.out.later HA8.out).cis, HLEN.out, by rw [← HL2E.out]; exact bd_swap HGX.out.len hlt HGX.out.bd (by rw [HT.out]; exact HCB.out), fun e => by have h1 := HO.out.2 g4 e; have h2 := (HO48.out.1.lt g4 rfl).1; omega, fun e => by have h1 := HN.out.2 g4 e; have h2 := (HO48.out.1.lt g4 rfl).1; omega⟩)
                      have HG8 := hid (show ∀ x ∈ G ++ [((g4, c4, (L2, (k : Int))) : FNode)], GN (w8.alloc (.cells #[.int .i64 p, .int .i64 q, .int .i64 r, .int .i64 s] 50)) (.slice o1 F.length o2) (.slice (some ⟨gq, 0, none⟩) G.length cq) x from fun x hx => by
                        rcases List.mem_append.1 hx with hx | hx
                        · exact ((HGN.out x hx).later HL8.out).later HA8.out
                        · simp at hx; subst hx; exact HX4.out)
                      obtain ⟨ib, hib, hib0, hib1, hib2⟩ := info_parts Try.infoF
                      go_wp2_with (at_builtin; refine wpList_append_lies _ (by rfl) _ _ _ (by rfl) w6.heap.size 50 i0 (.agg #[.int .i64 0, .int .i64 0, .int .i64 0, .int .i64 0]) 4 32 Try.underlying22 hi0 hz0 hz1 hz2 rfl (by omega) _ F.length (ciCells F) (by rfl) (by exact HOw.out) ⟨w8.heap.size, 0, none⟩ 1 1 [.int .i64 p, .int .i64 q, .int .i64 r, .int .i64 s] (by rfl) (by rfl) (World.news_of_block (cs := #[.int .i64 p, .int .i64 q, .int .i64 r, .int .i64 s]) (t := 50) (fr := (0, 0)) (heap_alloc_new w8 _)) (by simp [Value.oneCell']) (by omega) (by unfold maxLen; omega) (by omega) (by have := HWS.out; simp; omega) (w8.heap.size + 1) (by simp) ?_)
                      intro g5 cap5 w9 hown5 hgrow5 hat5 hglt5
                      have HP9 := hid (show OwnCis w6.heap.size w9.heap.size w9 (.slice (some ⟨g5, 0, none⟩) (F.length + 1) cap5) (F ++ [(p, q, r, s)]) from ⟨by rw [ciCells_snoc, List.length_append]; exact hown5, fun b hb => by simp [Value.ownBlock] at hb; subst hb; exact hglt5⟩)
                      have HL9 := hid (show Later w6 w9 from HL18.out.grown hgrow5 HL18.out.size (fun b hb => (HOC.out.1.lt b hb).1))
                      have HN9 := hid (show OwnF w6.heap.size wr.heap.size w9 (.slice (some ⟨gq, 0, none⟩) G.length cq) G from ⟨ownsRow_far HN8.out.1 hgrow5 (fun b hb => rows_apart HN8.out.1 HOC.out.1 (by decide) b hb), HN8.out.2⟩)
                      have HG9 := hid (fun x hx => (HG8.out x hx).grownO (n := F.length + 1) (cap := cap5) hgrow5 hat5 (by simp))
                      clear hown5 hgrow5 hat5 hglt5 d0 d1 d2 d3 HOw HA8 HN8 HL18 HWS HOC HG8 HX4 HO48 HL8 hdl
                      have HA9 := hid (Later.alloc w9 (.cells #[.slice (some ⟨g4, 0, none⟩) 4 c4, .int .i64 (k : Int)] 73))
                      have HW9 := hid HL9.out.size
                      have HNw := hid (HN9.out.1.alloc (.cells #[.slice (some ⟨g4, 0, none⟩) 4 c4, .int .i64 (k : Int)] 73))
                      go_wp2_with (at_builtin; refine wpList_append_lies _ (by rfl) _ _ _ (by rfl) w6.heap.size 73 ib (.agg #[.slice none 0 0, .int .i64 0]) 2 32 Try.underlying74 hib hib0 hib1 hib2 rfl (by omega) _ G.length (fCells G) (by rfl) (by exact HNw.out) ⟨w9.heap.size, 0, none⟩ 1 1 [.slice (some ⟨g4, 0, none⟩) 4 c4, .int .i64 (k : Int)] (by rfl) (by rfl) (World.news_of_block (cs := #[.slice (some ⟨g4, 0, none⟩) 4 c4, .int .i64 (k : Int)]) (t := 73) (fr := (0, 0)) (heap_alloc_new w9 _)) (by simp [Value.oneCell']) (by omega) (by unfold maxLen; omega) (by omega) (by have := HW9.out; simp; omega) (w9.heap.size + 1) (by simp) ?_)
                      intro g6 cap6 w10 hown6 hgrow6 hat6 hglt6
                      have HP9a := hid (HP9.out.later HA9.out)
                      have HN9a := hid (HN9.out.later HA9.out)
                      have HL19 := hid (HL9.out.trans HA9.out)
                      have HS6 := hid hgrow6.size
                      have HN10 := hid (show OwnF w6.heap.size w10.heap.size w10 (.slice (some ⟨g6, 0, none⟩) (G.length + 1) cap6) (G ++ [(g4, c4, (L2, (k : Int)))]) from ⟨by rw [fCells_snoc, List.length_append]; exact hown6, fun b hb => by simp [Value.ownBlock] at hb; subst hb; exact hglt6⟩)
                      have HP10 := hid (show OwnCis w6.heap.size w10.heap.size w10 (.slice (some ⟨g5, 0, none⟩) (F.length + 1) cap5) (F ++ [(p, q, r, s)]) from ⟨ownsRow_far HP9a.out.1 hgrow6 (fun b hb => rows_apart HP9a.out.1 HN9a.out.1 (by decide) b hb), fun b hb => by have h1 := HP9.out.2 b hb; have h2 := HA9.out.size; have h3 := HS6.out; omega⟩)
                      have HL10 := hid (show Later w6 w10 from HL19.out.grown hgrow6 HL19.out.size (fun b hb => (HN9a.out.1.lt b hb).1))
                      have HG10 := hid (fun x hx => ((HG9.out x hx).later HA9.out).grownQ (n := G.length + 1) (cap := cap6) hgrow6 hat6 (by simp))
                      clear hown6 hgrow6 hat6 hglt6 HP9a HN9a HL19 HG9
                      go_wp2_with fail
                      go_roundw
                      case rel => exact ⟨k + 1, kids ++ [(g4, c4, (L2, (k : Int)))], by omega, by go_num, by rw [HNK.out.2, List.map_append, HKM.out]; rfl, by rw [← List.append_assoc, HGE.out, HFN.out, List.length_append, List.length_append]; have := HFL.out.1; simp; omega, by rw [HFN.out, List.length_append]; simp; omega, by rw [HFN.out, List.all_append, HFA.out]; simp [HCB.out], by rw [HFN.out]; exact HP10.out, by rw [← List.append_assoc, HGE.out]; exact HN10.out, by rw [← List.append_assoc, HGE.out]; exact HG10.out, HL10.out⟩
                      case measure => simp [intOf]; omega
            · obtain rfl : k = 4 := by omega
              have HO := hid hO
              have HN := hid hN
              have HL := hid hL
              have HGN := hid hGN
              obtain ⟨a9, c9, rfl⟩ := hN.shape
              clear hO hN hL hGN hgj hkm hql hTl hTa hjl
              go_wp2_with fail
              go_roundw
              case rel =>
                repeat apply Exists.intro
                refine And.intro ?_ rfl
                exact ⟨j + 1, T ++ newsTo most nd 4, seen ++ [(gx, cx, nd)], rest ++ kids, by go_num, by simp [HSL.out], by rw [HQE.out]; exact HQL.out, HTL.out, HTA.out, by rw [HF1.out, List.map_append, HKM.out]; exact HRR.out, HO.out, by rw [HQE.out]; exact HN.out, by rw [HQE.out]; exact HGN.out, HL.out⟩
              case measure => simp [intOf]; omega
theorem upS_any (v : Value) (L : List Ci4) (most : Int) (w : World) (h : Cis w v L) :
    Calls Try.prog 34 #[v, .int .i64 most] w fun e w' => CisAns w (upAns L most) e w' := by
  have no (hn : upOk L most = false) : upAns L most = none := by unfold upAns; rw [hn]; simp
  cases hc : confB L
  · rw [no (by unfold upOk; rw [hc]; rfl)]
    exact upS_no1 v L most w h hc
  · cases hw : within 1 60 most
    · rw [no (by unfold upOk; rw [hw]; simp)]
      exact upS_no2 v L most w h hc hw
    · cases hb : apB (curvL L)
      · rw [no (by unfold upOk insideB; rw [hb]; simp)]
        exact upS_no3 v L most w h hc hw hb
      · cases hl : lastQ (curvL L)
        · rw [no (by unfold upOk insideB; rw [hl]; simp)]
          exact upS_no4 v L most w h hc hw hb hl
        · have hm : decide (mnTo (curvL L) 4 < 0) = decide ((sortU (curvL L)).getD 0 0 < 0) := by
            obtain ⟨a, b, c, d, e⟩ := len4 (zs := curvL L) (by simp [curvL, fourB_len (confB_four hc)])
            rw [e]; exact mn_sorted
          rcases Int.lt_or_le ((sortU (curvL L)).getD 0 0) 0 with hs | hs
          · exact upS_yes v L most w h hc hw hb hl hs (by unfold upOk insideB; rw [hc, hw, hb, hl, hm, decide_eq_true hs]; rfl)
          · rw [no (by unfold upOk insideB; rw [hm, decide_eq_false (by omega)]; simp)]
            exact upS_no5 v L most w h hc hw hb hl hs
end Go.Proofs.Ytljikcajfmnnmab
