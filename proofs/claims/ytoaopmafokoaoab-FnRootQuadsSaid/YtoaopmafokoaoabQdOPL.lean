/- QdO, QdP, QdLa: in one text. -/
import Derived.Test.YtoaopmafokoaoabQdTUV
import Derived.Test.YtoaopmafokoaoabRowsKI
namespace Go.Proofs.Ytoaopmafokoaoab
open Go.RowKit


theorem below_bd {ys zs : List Int} {L : List (List Int)} (h : L ++ belowQ ys = wayQ zs) : (wayQ zs).take L.length = L ∧ L.length ≤ (wayQ zs).length := by
  rw [← h]; simp
set_option maxRecDepth 20000 in
set_option maxHeartbeats 4000000 in
theorem apPath_any (zs : List Int) (v : Value) (w : World) (hg : apB zs = true) (h : Ints w v zs) :
    Calls Try.prog 53 #[v] w fun e w' => MadeRows w ((wayQ zs).take 201) e w' := by
  obtain ⟨i0, hi, hz0, hz1, hz2⟩ := info_parts Try.infoInts
  have hlen := apB_hlen hg
  obtain ⟨ad, c, rfl⟩ : ∃ ad c, v = .slice (some ad) 4 c := by
    obtain ⟨a, c, rfl, _, hc⟩ := h
    obtain ⟨ad, rfl, _⟩ := hc 0 (by omega)
    exact ⟨ad, c, by rw [hlen]⟩
  have H := hid h
  have HS := hid hg
  have HLEN := hid hlen
  clear h hg hlen
  go_enter Try.func53, Try.ntmps53
  go_wp2_with fail
  refine (l1OwnH_any ad 4 c zs _ HLEN.out (by omega) H.out).mono ?_
  rintro e w1 ⟨v1, rfl, ho, hL⟩
  obtain ⟨a1, c1, rfl, _⟩ := ho.shape
  have H1 := hid (H.out.later (hL.trans (Later.alloc w1 (.cells #[.slice a1 zs.length c1] 24))))
  have HO := hid (OwnRows.oneH hL.size ho)
  have HL := hid (hL.trans (Later.alloc w1 (.cells #[.slice a1 zs.length c1] 24)))
  have hs : (w1.alloc (.cells #[.slice a1 zs.length c1] 24)).heap.size = w1.heap.size + 1 := by simp
  rw [← hs] at HO
  clear ho hL hs
  go_wp2_with fail
  generalize w1.alloc (.cells #[.slice a1 zs.length c1] 24) = w2 at HO HL H1 ⊢
  refine (apDown_zs _ zs _ HS.out H1.out).mono ?_
  rintro e w3 ⟨rfl, hL3⟩
  have HI3 := hid (H1.out.later hL3)
  have HO3 := hid ((HO.out.later hL3).wide (Nat.le_refl _) hL3.size)
  have HL3 := hid (HL.out.trans hL3)
  clear hL3 HO HL H1
  go_wp2_with fail
  go_loopw [0, 3, 4] (fun t o i wr => ∃ (ys : List Int) (L : List (List Int)), apB ys = true ∧ Ints wr t ys ∧ i = .int .i64 (downIx ys) ∧ OwnRows w.heap.size wr.heap.size wr o L ∧ L ++ belowQ ys = wayQ zs ∧ L.length ≤ 201 ∧ 1 ≤ L.length ∧ Later w wr)
    (fun _ o _ _ => 202 - lenOfH o)
  case atStart => exact ⟨zs, [zs], HS.out, HI3.out, rfl, HO3.out, rfl, by simp, by simp, HL3.out⟩
  case round =>
    clear HO3 HL3 HI3
    obtain ⟨ys, L, hSy, hI, rfl, hO, hR, hle, hl1, hL⟩ := hrel
    have HI := hid hI
    have HO := hid hO
    have HR := hid hR
    have HL := hid hL
    have HSy := hid hSy
    obtain ⟨pt, ct, rfl, _⟩ := hI
    obtain ⟨o1, o2, rfl, hoc⟩ := hO.shape
    clear hO hR hL hoc hSy
    cases hl : lastQ ys
    · have HD := hid (downIx_next hl)
      have hn := nextQ_good HSy.out hl
      have HNS := hid hn.1
      have HST := hid (belowQ_step HSy.out hl)
      have HG4 := hid (gIx_lt HSy.out)
      have HNX := hid (show nextQ ys = swL ys (gIx ys) from rfl)
      obtain ⟨g, hg⟩ : ∃ g, gIx ys = g := ⟨_, rfl⟩
      rw [hg] at HD HG4 HNX
      rw [HD.out]
      have hg0 : (0 : Int) ≤ (g : Int) := by omega
      clear hl hn hg
      by_cases h201 : L.length ≤ 200
      · have hll : (L.length : Int) ≤ 200 := by omega
        go_wp2_with fail
        refine (apSwap_zs _ ys g _ HG4.out HSy.out HI.out).mono ?_
        rw [← HNX.out]
        rintro e w4 ⟨v4, rfl, ho4, hL4⟩
        obtain ⟨a4, c4, rfl, _⟩ := ho4.shape
        obtain ⟨us, hul, hus, hub, hin, hdis⟩ := (HO.out.later hL4).partsH
        have HO4 := hid ho4
        have HL4 := hid (HL.out.trans hL4)
        have HWS := hid hL4.size
        have HIN := hid hin
        have HDI := hid hdis
        have hown4 := hid (hus.alloc (.cells #[.slice a4 (nextQ ys).length c4] 24))
        have HWL := hid (show w.heap.size ≤ wr.heap.size from HL.out.size)
        have hlu : us.length ≤ 200 := by omega
        clear ho4 hL4 hus hin hdis hub
        go_wp2_with (at_builtin; refine wpList_append_lies _ (by rfl) _ _ _ (by rfl) w.heap.size 24 i0 (.slice none 0 0) 1 24 Try.underlying26 hi hz0 hz1 hz2 rfl (by omega) _ us.length us (by rfl) (by exact hown4.out) ⟨w4.heap.size, 0, none⟩ 1 1 [.slice a4 (nextQ ys).length c4] (by rfl) (by rfl) (World.news_of_block (cs := #[.slice a4 (nextQ ys).length c4]) (t := 24) (fr := (0, 0)) (heap_alloc_new w4 _)) (by simp [Value.oneCell']) (by omega) (by unfold maxLen; omega) (by omega) (by have := HL4.out.size; simp; omega) (w4.heap.size + 1) (by simp) ?_)
        intro g' cap1 w7 hown7 hgrow hat hglt
        have hA := Later.alloc w4 (.cells #[.slice a4 (nextQ ys).length c4] 24)
        have HP := hid (OwnRows.pushed hul hown4.out (fun i hi => ((HIN.out i hi).later hA)) HDI.out (((HO4.out.wide (Nat.le_refl _) (Nat.le_refl _)).later hA).wide (Nat.le_refl _) (by simp)) HWL.out (by rw [hul]; exact hown7) hgrow)
        have HL7 := hid (show Later w w7 from (HL4.out.trans hA).grown hgrow (by have := HL4.out.size; simp; omega) (fun b hb => (hown4.out.lt b hb).1))
        have HI7 := hid (OwnInts.keptH (HO4.out.later hA) hown4.out hgrow).ints
        clear hown7 hgrow hat hA
        go_wp2_with fail
        refine (apDown_zs _ (nextQ ys) _ HNS.out HI7.out).mono ?_
        rintro e w8 ⟨rfl, hL8⟩
        have HI8 := hid (HI7.out.later hL8)
        have HO8 := hid ((HP.out.later hL8).wide (Nat.le_refl _) hL8.size)
        have HL8 := hid (HL7.out.trans hL8)
        clear hL8
        go_wp2_with fail
        go_roundw
        case rel => exact ⟨nextQ ys, L ++ [nextQ ys], HNS.out, HI8.out, rfl, by simpa using HO8.out, by rw [List.append_assoc, List.singleton_append, ← HST.out]; exact HR.out, by simp; omega, by simp, HL8.out⟩
        case measure => simp [lenOfH]; omega
      · have hll : ¬ (L.length : Int) ≤ 200 := by omega
        have HE := hid (show (wayQ zs).take 201 = L by have := (below_bd HR.out).1; rw [show L.length = 201 by omega] at this; exact this)
        go_wp2_with fail
        go_ret
        exact ⟨_, rfl, by rw [HE.out]; exact HO.out, HL.out⟩
    · have HD := hid (downIx_last hl)
      have HE := hid (show (wayQ zs).take 201 = L by have := HR.out; rw [belowQ_last hl, List.append_nil] at this; rw [← this]; exact List.take_of_length_le hle)
      rw [HD.out]
      clear hl
      go_wp2_with fail
      go_ret
      exact ⟨_, rfl, by rw [HE.out]; exact HO.out, HL.out⟩
set_option maxRecDepth 20000 in
set_option maxHeartbeats 2000000 in
theorem specDownPath_any (v : Value) (zs : List Int) (w : World) (h : Ints w v zs) :
    Calls Try.prog 9 #[v] w fun e w' => RowsAns w (qwayAns zs) e w' := by
  obtain ⟨p, cap, rfl, hl, _⟩ := id h
  have H := hid h
  clear h
  cases hg : apB zs
  · have HG := hid hg
    have HA := hid (show qwayAns zs = none by unfold qwayAns; rw [hg]; simp)
    clear hg
    go_enter Try.func9, Try.ntmps9
    go_wp2_with fail
    refine (apGood_as _ zs _ _ HG.out H.out).mono ?_
    rintro e w' ⟨rfl, rfl⟩
    go_wp2_with fail
    go_ret2
    rw [HA.out]
    exact ⟨_, rfl, OwnRows.noneH _ _ _, Later.refl _⟩
  · have HG := hid hg
    by_cases h200 : (wayQ zs).length ≤ 200
    · have HA := hid (show qwayAns zs = some (wayQ zs) by unfold qwayAns; rw [if_pos ⟨hg, h200⟩])
      have HT := hid (show (wayQ zs).take 201 = wayQ zs from List.take_of_length_le (by omega))
      have hlI : ((wayQ zs).length : Int) ≤ 200 := by omega
      clear hg
      go_enter Try.func9, Try.ntmps9
      go_wp2_with fail
      refine (apGood_as _ zs _ _ HG.out H.out).mono ?_
      rintro e w' ⟨rfl, rfl⟩
      go_wp2_with fail
      refine (apPath_any zs _ _ HG.out H.out).mono ?_
      rintro e w2 ⟨v2, rfl, ho, hL⟩
      rw [HT.out] at ho
      obtain ⟨a2, c2, rfl, _⟩ := ho.shape
      have HO := hid ho
      have HL := hid hL
      clear ho hL
      go_wp2_with fail
      go_ret2
      rw [HA.out]
      exact ⟨_, rfl, HO.out, HL.out⟩
    · have HA := hid (show qwayAns zs = none by unfold qwayAns; rw [if_neg (by omega)])
      have HT := hid (show ((wayQ zs).take 201).length = 201 by rw [List.length_take]; omega)
      clear hg h200
      go_enter Try.func9, Try.ntmps9
      go_wp2_with fail
      refine (apGood_as _ zs _ _ HG.out H.out).mono ?_
      rintro e w' ⟨rfl, rfl⟩
      go_wp2_with fail
      refine (apPath_any zs _ _ HG.out H.out).mono ?_
      rintro e w2 ⟨v2, rfl, ho, hL⟩
      obtain ⟨a2, c2, rfl, _⟩ := ho.shape
      rw [HT.out]
      have HL := hid hL
      clear ho hL
      go_wp2_with fail
      go_ret2
      rw [HA.out]
      exact ⟨_, rfl, OwnRows.noneH _ _ _, HL.out⟩


theorem qwordL_len2 (zs : List Int) (n : Nat) (hn : (wayQ zs).length = n + 1) : (qwordL zs).length = n := by
  unfold qwordL; simp [hn]
theorem qwordL_take {zs : List Int} (n : Nat) (hn : (wayQ zs).length = n + 1) (k : Nat) (hk : k < n) : (qwordL zs).take (k + 1) = (qwordL zs).take k ++ [(gIx ((wayQ zs).getD k []) : Int)] := by
  have hl : k < (qwordL zs).length := by rw [qwordL_len2 zs n hn]; exact hk
  rw [List.take_succ_eq_append_getElem hl]
  congr 2
  unfold qwordL
  simp [show k < (wayQ zs).length by omega]
/-- all quads of the way but the last one are no roots -/
theorem way_nextQ (k : Nat) : ∀ zs : List Int, apB zs = true → zs.sum.toNat ≤ k → ∀ j, j + 1 < (wayQ zs).length → lastQ ((wayQ zs).getD j []) = false := by
  induction k with
  | zero => intro zs h h1; have := apB_sum h; omega
  | succ k ih =>
    intro zs h h1 j hj
    cases hl : lastQ zs
    · have hn := nextQ_good h hl
      cases j with
      | zero => simpa [wayQ] using hl
      | succ j =>
        have e : wayQ zs = zs :: wayQ (nextQ zs) := by unfold wayQ; rw [belowQ_step h hl]
        rw [e] at hj ⊢
        have := ih _ hn.1 (by omega) j (by simpa using hj)
        simpa using this
    · have e : wayQ zs = [zs] := by unfold wayQ; rw [belowQ_last hl]
      rw [e] at hj
      simp at hj
set_option maxRecDepth 20000 in
set_option maxHeartbeats 4000000 in
theorem specDownWord_any (v : Value) (zs : List Int) (w : World) (h : Ints w v zs) :
    Calls Try.prog 11 #[v] w fun e w' => IntsAns w (qwordAns zs) e w' := by
  obtain ⟨ii, hii, ii0, ii1, ii2⟩ := info_parts Try.infoInt
  obtain ⟨p, cap, rfl, hl, _⟩ := id h
  have H := hid h
  clear h
  by_cases hq : apB zs = true ∧ (wayQ zs).length ≤ 200
  · have HA := hid (show qwordAns zs = some (qwordL zs) by unfold qwordAns; rw [if_pos hq])
    have HP := hid (show qwayAns zs = some (wayQ zs) by unfold qwayAns; rw [if_pos hq])
    have HG := hid hq.1
    obtain ⟨n, hn⟩ : ∃ n, (wayQ zs).length = n + 1 := ⟨(wayQ zs).length - 1, by simp [wayQ]⟩
    have hnb : n ≤ 199 := by omega
    have HN := hid hn
    clear hq hn
    go_enter Try.func11, Try.ntmps11
    go_wp2_with fail
    refine (specDownPath_any _ zs _ H.out).mono ?_
    rintro e w1 ⟨v1, rfl, ho, hL⟩
    rw [HP.out] at ho ⊢
    simp only [Option.getD_some] at ho
    obtain ⟨_, _, e1, _, hcs⟩ := id ho.rows
    obtain ⟨a1, c1, rfl, hc1⟩ := ho.shape
    obtain ⟨ad1, _, rfl, _, _⟩ := id (by
      simp only [Value.slice.injEq] at e1
      obtain ⟨rfl, _, rfl⟩ := e1
      exact hcs 0 (by rw [HN.out]; omega))
    have HR := hid ho.rows
    have HL := hid hL
    have hnc : (n : Int) + 1 ≤ (c1 : Int) := by rw [HN.out] at hc1; omega
    rw [HN.out]
    clear ho hL e1 hcs hc1
    have hs1 : ((n : Int) + 1) - 1 = (n : Int) := by omega
    have hnc1 : (n : Int) ≤ (c1 : Int) := by omega
    have hncn : n ≤ c1 := by omega
    go_wp2_with fail
    go_loopw [6, 22] (fun o i wr => ∃ k : Nat, k ≤ n ∧ i = .int .i64 k ∧ OwnInts w1.heap.size wr.heap.size wr o ((qwordL zs).take k) ∧ Later w1 wr) (fun _ i _ => n - (intOf i).toNat)
    case atStart => exact ⟨0, Nat.zero_le _, rfl, OwnInts.nothing0 _ _ _, Later.refl _⟩
    case round =>
      obtain ⟨k, hk, rfl, hO, hLr⟩ := hrel
      have HO := hid hO
      have HLr := hid hLr
      by_cases hlt : k < n
      · obtain ⟨_, _, e1, _, hcs⟩ := HR.out.later hLr
        simp only [Value.slice.injEq] at e1
        obtain ⟨rfl, _, rfl⟩ := e1
        obtain ⟨ad, u, ea, hcell, hu⟩ := hcs k (by rw [HN.out]; omega)
        simp only [Option.some.injEq] at ea
        subst ea
        have hgood := wayQ_good HG.out ((wayQ zs).getD k []) (by rw [List.getD_eq_getElem?_getD, List.getElem?_eq_getElem (by rw [HN.out]; omega)]; exact List.getElem_mem _)
        have hlast := way_nextQ _ zs HG.out (Nat.le_refl _) k (by rw [HN.out]; omega)
        have HTK := hid (qwordL_take n HN.out k hlt)
        have HTL := hid (show ((qwordL zs).take k).length = k by rw [List.length_take, qwordL_len2 zs n HN.out]; omega)
        obtain ⟨q, hq⟩ : ∃ q, (wayQ zs).getD k [] = q := ⟨_, rfl⟩
        rw [hq] at hu hgood hlast HTK
        have HQG := hid hgood
        have HQD := hid (downIx_next hlast)
        obtain ⟨g, hg⟩ : ∃ g, gIx q = g := ⟨_, rfl⟩
        rw [hg] at HQD HTK
        have HU := hid hu
        obtain ⟨o1, o2, rfl, _⟩ := hO.shape
        have hkI : (k : Int) < (n : Int) := by omega
        clear hO hLr hcs hgood hlast hq hg hu
        go_wp2_with fail
        refine (apDown_zs _ q _ HQG.out HU.out).mono ?_
        rintro e w2 ⟨rfl, hL2⟩
        rw [HQD.out]
        have how := (HO.out.later hL2).1
        rw [HTL.out] at how
        have HOA := hid (how.alloc (.cells #[Value.int .i64 (g : Int)] 3))
        have HLT2 := hid how.lt
        have HLA := hid ((HLr.out.trans hL2).trans (Later.alloc w2 (.cells #[Value.int .i64 (g : Int)] 3)))
        have hsz2 : w1.heap.size ≤ w2.heap.size := (HLr.out.trans hL2).size
        rw [HTL.out]
        clear how hL2
        go_wp2_with (at_builtin; refine wpList_append_own_at _ (by rfl) _ _ _ (by rfl) w1.heap.size 3 ii (.int .i64 0) 1 8 Try.underlying24 hii ii0 ii1 ii2 rfl (by omega) (.slice o1 k o2) k (((qwordL zs).take k).map (Value.int .i64)) (by rfl) (by exact HOA.out) ⟨w2.heap.size, 0, none⟩ 1 1 [.int .i64 (g : Int)] (by rfl) (by simp) (cell_one_new _ _ _) (fun u hu => by simp at hu; subst hu; rfl) (by unfold maxLen; omega) (by omega) HLA.out.size ?_)
        intro v4 w4 hown4 hgrow4 _ _
        have HO4 := hid (OwnInts.ofH (zs := (qwordL zs).take (k + 1)) hown4 (by rw [HTK.out]; simp))
        have HL4 := hid (show Later w1 w4 from HLA.out.grown hgrow4 HLA.out.size (fun b hb => (HLT2.out b hb).1))
        clear hown4 hgrow4
        go_wp2_with fail
        go_roundw
        case rel => exact ⟨k + 1, hlt, by go_num, HO4.out, HL4.out⟩
        case measure => simp [intOf]; omega
      · obtain rfl : k = n := by omega
        have HT := hid (show (qwordL zs).take k = qwordL zs from List.take_of_length_le (by rw [qwordL_len2 zs k HN.out]; exact Nat.le_refl _))
        go_wp2_with fail
        go_ret2
        rw [HA.out]
        exact ⟨_, rfl, by simp only [Option.getD_some]; rw [← HT.out]; exact HO.out.wide HL.out.size (Nat.le_refl _), HL.out.trans HLr.out⟩
  · have HA := hid (show qwordAns zs = none by unfold qwordAns; rw [if_neg hq])
    have HP := hid (show qwayAns zs = none by unfold qwayAns; rw [if_neg hq])
    clear hq
    go_enter Try.func11, Try.ntmps11
    go_wp2_with fail
    refine (specDownPath_any _ zs _ H.out).mono ?_
    rintro e w1 ⟨v1, rfl, ho, hL⟩
    rw [HP.out] at ho ⊢
    have HL := hid hL
    clear ho hL
    go_wp2_with fail
    go_ret2
    rw [HA.out]
    exact ⟨_, rfl, OwnInts.nothing0 _ _ _, HL.out⟩


theorem swN_back {zs : List Int} {i : Nat} (hi : i < zs.length) : swN (swL zs i) i = zs.getD i 0 := by
  have h1 := swL_sum (zs := zs) i hi
  have h2 : (swL zs i).getD i 0 = swN zs i := by unfold swL; simp [hi]
  unfold swN at h1 h2 ⊢
  omega
theorem swL_back {zs : List Int} {i : Nat} (hi : i < zs.length) : swL (swL zs i) i = zs := by
  have h := swN_back hi
  unfold swL at h ⊢
  rw [h, List.set_set]
  apply List.ext_getElem (by simp)
  intro j h1 h2
  by_cases e : j = i
  · subst e; simp [h2]
  · rw [List.getElem_set_ne (by omega)]
/-- where a swap makes a number less, it is the greatest one -/
theorem fall_gIx {zs : List Int} (h : apB zs = true) {i : Nat} (hi : i < 4) (hlt : swN zs i < zs.getD i 0) : gIx zs = i := by
  obtain ⟨a, b, c, d, rfl, hq⟩ := apB_four h
  obtain ⟨e0, e1, e2, e3⟩ := swN4 a b c d
  have p1 := hq.pair
  have p2 := hq.p13.pair
  have p3 := hq.p14.pair
  have key : ∀ j, j < 4 → j ≠ i → [a, b, c, d].getD j 0 < [a, b, c, d].getD i 0 := by
    intro j hj hji
    have hi4 : i = 0 ∨ i = 1 ∨ i = 2 ∨ i = 3 := by omega
    have hj4 : j = 0 ∨ j = 1 ∨ j = 2 ∨ j = 3 := by omega
    rcases hi4 with rfl | rfl | rfl | rfl <;> rcases hj4 with rfl | rfl | rfl | rfl <;> first | exact absurd rfl hji | (simp at hlt ⊢; omega)
  refine gIx_eq (by simpa using hi) (fun j hj => ?_) (fun j hj => key j (by omega) (by omega))
  by_cases e : j = i
  · rw [e]; exact Int.le_refl _
  · exact Int.le_of_lt (key j (by simpa using hj) e)
theorem wayQ_step {zs : List Int} (h : apB zs = true) (hl : lastQ zs = false) : wayQ zs = zs :: wayQ (nextQ zs) := by unfold wayQ; rw [belowQ_step h hl]
theorem wayQ_one {zs : List Int} (hl : lastQ zs = true) : wayQ zs = [zs] := by unfold wayQ; rw [belowQ_last hl]
theorem wayQ_ne (zs : List Int) : 0 < (wayQ zs).length := by unfold wayQ; simp
def endQ (zs : List Int) : List Int := (wayQ zs).getD ((wayQ zs).length - 1) []
theorem endQ_step {zs : List Int} (h : apB zs = true) (hl : lastQ zs = false) : endQ zs = endQ (nextQ zs) := by
  unfold endQ
  rw [wayQ_step h hl]
  have := wayQ_ne (nextQ zs)
  rw [List.length_cons, Nat.add_sub_cancel]
  obtain ⟨k, hk⟩ : ∃ k, (wayQ (nextQ zs)).length = k + 1 := ⟨(wayQ (nextQ zs)).length - 1, by omega⟩
  rw [hk, List.getD_cons_succ]; rfl
theorem endQ_one {zs : List Int} (hl : lastQ zs = true) : endQ zs = zs := by unfold endQ; rw [wayQ_one hl]; rfl
theorem end_fall {zs : List Int} (h : apB zs = true) {i : Nat} (hi : i < 4) (hlt : swN zs i < zs.getD i 0) : endQ zs = endQ (swL zs i) := by
  have hg := fall_gIx h hi hlt
  have hl : lastQ zs = false := by unfold lastQ; rw [hg]; exact decide_eq_false (by omega)
  rw [endQ_step h hl]
  unfold nextQ
  rw [hg]
/-- a swap keeps the root -/
theorem end_swap {zs : List Int} (h : apB zs = true) {i : Nat} (hi : i < 4) (hx : swN zs i ≤ 100000) : endQ (swL zs i) = endQ zs := by
  have hl4 := apB_hlen h
  rcases Int.lt_trichotomy (swN zs i) (zs.getD i 0) with h1 | h1 | h1
  · exact (end_fall h hi h1).symm
  · have : swL zs i = zs := by
      unfold swL
      rw [h1]
      apply List.ext_getElem (by simp)
      intro j h2 h3
      by_cases e : j = i
      · subst e; simp [h3]
      · rw [List.getElem_set_ne (by omega)]
    rw [this]
  · have hg : apB (swL zs i) = true := by rw [swL_good h i hi]; exact decide_eq_true hx
    have h2 : (swL zs i).getD i 0 = swN zs i := by unfold swL; simp [show i < zs.length by omega]
    have := end_fall hg hi (by rw [swN_back (by omega), h2]; exact h1)
    rw [swL_back (by omega)] at this
    exact this
theorem root_swap {zs : List Int} (h : apB zs = true) {i : Nat} (hi : i < 4) (hx : swN zs i ≤ 100000) : rootL (swL zs i) = rootL zs := by
  have := end_swap h hi hx
  unfold endQ at this
  unfold rootL
  rw [this]
theorem way_all (k : Nat) : ∀ zs : List Int, apB zs = true → zs.sum.toNat ≤ k → (lastQ (endQ zs) = true ∧ apB (endQ zs) = true) ∧ ∀ j, j + 1 < (wayQ zs).length → (wayQ zs).getD (j + 1) [] = nextQ ((wayQ zs).getD j []) := by
  induction k with
  | zero => intro zs h h1; have := apB_sum h; omega
  | succ k ih =>
    intro zs h h1
    cases hl : lastQ zs
    · have hn := nextQ_good h hl
      obtain ⟨q1, q2⟩ := ih _ hn.1 (by omega)
      refine ⟨by rw [endQ_step h hl]; exact q1, fun j hj => ?_⟩
      rw [wayQ_step h hl] at hj ⊢
      cases j with
      | zero => rfl
      | succ j => simpa using q2 j (by simpa using hj)
    · refine ⟨by rw [endQ_one hl]; exact ⟨hl, h⟩, fun j hj => ?_⟩
      rw [wayQ_one hl] at hj
      simp at hj
theorem qwordL_step {zs : List Int} (h : apB zs = true) (hl : lastQ zs = false) : qwordL zs = (gIx zs : Int) :: qwordL (nextQ zs) := by
  unfold qwordL
  rw [wayQ_step h hl]
  have := wayQ_ne (nextQ zs)
  rw [List.dropLast_cons_of_ne_nil (by intro e; rw [e] at this; simp at this), List.map_cons]
theorem follow_app : ∀ (w1 w2 zs r : List Int), followL zs w1 = some r → followL zs (w1 ++ w2) = followL r w2 := by
  intro w1
  induction w1 with
  | nil => intro w2 zs r h; simp [followL] at h; subst h; rfl
  | cons i is ih =>
    intro w2 zs r h
    unfold followL at h
    split at h
    · rename_i hx
      rw [List.cons_append, followL, if_pos hx]
      exact ih _ _ _ h
    · cases h
theorem follow_way (k : Nat) : ∀ zs : List Int, apB zs = true → zs.sum.toNat ≤ k → followL zs (qwordL zs) = some (endQ zs) ∧ followL (endQ zs) (qwordL zs).reverse = some zs ∧ (qwordL zs).all (within 0 3) = true := by
  induction k with
  | zero => intro zs h h1; have := apB_sum h; omega
  | succ k ih =>
    intro zs h h1
    cases hl : lastQ zs
    · have hn := nextQ_good h hl
      obtain ⟨q1, q2, q3⟩ := ih _ hn.1 (by omega)
      have hg := gIx_lt h
      have hl4 := apB_hlen h
      rw [qwordL_step h hl, endQ_step h hl]
      have hx : swN zs (gIx zs) < zs.getD (gIx zs) 0 := by simpa [lastQ] using hl
      have hb := apB_mem h (gIx zs) hg
      refine ⟨?_, ?_, ?_⟩
      · rw [followL, Int.toNat_natCast, if_pos (by omega)]; exact q1
      · rw [List.reverse_cons, follow_app _ _ _ _ q2, followL, Int.toNat_natCast]
        have e1 : swN (nextQ zs) (gIx zs) = zs.getD (gIx zs) 0 := swN_back (by omega)
        have e2 : swL (nextQ zs) (gIx zs) = zs := swL_back (by omega)
        rw [if_pos (by omega), e2, followL]
      · rw [List.all_cons, q3, Bool.and_true]; exact within03.2 (by omega)
    · have e : qwordL zs = [] := by unfold qwordL; rw [wayQ_one hl]; rfl
      rw [e, endQ_one hl]
      exact ⟨rfl, rfl, rfl⟩
/-- a root: no swap makes the sum less -/
theorem root_least {zs : List Int} (h : apB zs = true) (hl : lastQ zs = true) {i : Nat} (hi : i < 4) : zs.sum ≤ (swL zs i).sum := by
  rw [swL_sum i (by rw [apB_hlen h]; exact hi)]
  rcases Int.lt_or_le (swN zs i) (zs.getD i 0) with h1 | h1
  · exfalso
    have hg := fall_gIx h hi h1
    unfold lastQ at hl
    rw [hg] at hl
    have := of_decide_eq_true hl
    omega
  · omega
/-- what the law asks of the way down of a quad -/
theorem falling_law (zs : List Int) :
    (qwayAns zs = none ∧ qwordAns zs = none ∧ rootQAns zs = none) ∨
    (∃ L U E, qwayAns zs = some L ∧ qwordAns zs = some U ∧ rootQAns zs = some (rootL zs) ∧ apB zs = true ∧ L.length ≤ 200 ∧ L.length = U.length + 1 ∧ L.getD 0 [] = zs ∧ L.getD U.length [] = E ∧ lastQ E = true ∧ (∀ j, j < L.length → apB (L.getD j []) = true) ∧
      (∀ j, j < U.length → swapAns (L.getD j []) (U.getD j 0) = some (L.getD (j + 1) []) ∧ (L.getD (j + 1) []).sum < (L.getD j []).sum) ∧
      followAns zs U = some E ∧ followAns E U.reverse = some zs ∧ downSwapAns zs = if 0 < U.length then some (U.getD 0 0) else none) := by
  by_cases hc : apB zs = true ∧ (wayQ zs).length ≤ 200
  · right
    have hg := hc.1
    obtain ⟨⟨hw1, hw1'⟩, hw2⟩ := way_all _ _ hg (Nat.le_refl _)
    have hnext := way_nextQ _ _ hg (Nat.le_refl _)
    obtain ⟨f1, f2, f3⟩ := follow_way _ _ hg (Nat.le_refl _)
    have hne := wayQ_ne zs
    obtain ⟨n, hn⟩ : ∃ n, (wayQ zs).length = n + 1 := ⟨(wayQ zs).length - 1, by omega⟩
    have hul := qwordL_len2 zs n hn
    have hgood : ∀ j, j < (wayQ zs).length → apB ((wayQ zs).getD j []) = true := by
      intro j hj
      exact wayQ_good hg _ (by rw [List.getD_eq_getElem?_getD, List.getElem?_eq_getElem hj, Option.getD_some]; exact List.getElem_mem _)
    have hend : (wayQ zs).getD (qwordL zs).length [] = endQ zs := by unfold endQ; rw [hul, hn]; rfl
    refine ⟨wayQ zs, qwordL zs, endQ zs, by unfold qwayAns; rw [if_pos hc], by unfold qwordAns; rw [if_pos hc], by unfold rootQAns; rw [if_pos hc], hg, hc.2, by omega, by unfold wayQ; rfl, hend, hw1, hgood, fun j hj => ?_, ?_, ?_, ?_⟩
    · have hgj := hgood j (by omega)
      have hlj := hnext j (by omega)
      have hu : (qwordL zs).getD j 0 = (gIx ((wayQ zs).getD j []) : Int) := by
        have h1 : j < (wayQ zs).length := by omega
        unfold qwordL
        rw [List.getD_eq_getElem?_getD, List.getElem?_map, List.getElem?_dropLast, if_pos (by omega), List.getElem?_eq_getElem h1]
        simp [h1]
      have hgx := gIx_lt hgj
      have hx : swN ((wayQ zs).getD j []) (gIx ((wayQ zs).getD j [])) < ((wayQ zs).getD j []).getD (gIx ((wayQ zs).getD j [])) 0 := by simpa [lastQ] using hlj
      have hb := apB_mem hgj _ hgx
      have hnx := nextQ_good hgj hlj
      rw [hw2 j (by omega), hu]
      refine ⟨?_, hnx.2⟩
      unfold swapAns
      rw [Int.toNat_natCast, if_pos ⟨hgj, within03.2 (by omega), by omega⟩]
      rfl
    · unfold followAns; rw [if_pos ⟨hg, by omega, f3⟩]; exact f1
    · unfold followAns; rw [if_pos ⟨hw1', by simp; omega, by simpa using f3⟩]; exact f2
    · unfold downSwapAns
      cases hl : lastQ zs
      · rw [qwordL_step hg hl]
        rw [if_pos ⟨hg, rfl⟩]
        simp
      · have e : qwordL zs = [] := by unfold qwordL; rw [wayQ_one hl]; rfl
        rw [e]
        simp
  · left
    unfold qwayAns qwordAns rootQAns
    rw [if_neg hc, if_neg hc, if_neg hc]
    exact ⟨rfl, rfl, rfl⟩
/-- what it asks of one swap -/
theorem swap_law (zs : List Int) (i : Int) : swapAns zs i = none ∨ ∃ S, swapAns zs i = some S ∧ apB zs = true ∧ apB S = true ∧ swapAns S i = some zs ∧ rootL S = rootL zs := by
  by_cases hc : apB zs = true ∧ within 0 3 i = true ∧ swN zs i.toNat ≤ 100000
  · right
    obtain ⟨h1, h2, h3⟩ := hc
    have h4 := within03.1 h2
    have hi : i.toNat < 4 := by omega
    have hl := apB_hlen h1
    have hg : apB (swL zs i.toNat) = true := by rw [swL_good h1 _ hi]; exact decide_eq_true h3
    refine ⟨_, by unfold swapAns; rw [if_pos ⟨h1, h2, h3⟩], h1, hg, ?_, root_swap h1 hi h3⟩
    unfold swapAns
    have hb := apB_mem h1 _ hi
    rw [if_pos ⟨hg, h2, by rw [swN_back (by omega)]; omega⟩, swL_back (by omega)]
  · left
    unfold swapAns
    rw [if_neg hc]
/-- .. and of a root -/
theorem rootQ_law {zs : List Int} (h : isRootAns zs = some true) (k : Nat) (hk : k < 4) : swapAns zs k = none ∨ ∃ S, swapAns zs k = some S ∧ zs.sum ≤ S.sum ∧ apB S = true := by
  unfold isRootAns at h
  split at h
  · rename_i hg
    simp only [Option.some.injEq] at h
    rcases swap_law zs k with h1 | ⟨S, h1, _, h2, _⟩
    · exact .inl h1
    · right
      have h3 := h1
      unfold swapAns at h3
      split at h3
      · simp only [Option.some.injEq, Int.toNat_natCast] at h3
        have := root_least hg h hk
        rw [h3] at this
        exact ⟨S, h1, this, h2⟩
      · cases h3
  · cases h
end Go.Proofs.Ytoaopmafokoaoab
