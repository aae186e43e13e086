/- Four curvatures: DownWord, sorting, RootQuad (the model). -/
import Derived.Test.YtpkdikfjcbmcbabQdO
namespace Go.Proofs.Ytpkdikfjcbmcbab
open Go.RowKit

theorem qwordL_len2 (zs : List Int) (n : Nat) (hn : (wayQ zs).length = n + 1) : (qwordL zs).length = n := by
  unfold qwordL; simp [hn]
theorem qwordL_take {zs : List Int} (n : Nat) (hn : (wayQ zs).length = n + 1) (k : Nat) (hk : k < n) : (qwordL zs).take (k + 1) = (qwordL zs).take k ++ [(gIx ((wayQ zs).getD k []) : Int)] := by
  have hl : k < (qwordL zs).length := by rw [qwordL_len2 zs n hn]; exact hk
  rw [List.take_succ_eq_append_getElem hl]
  congr 2
  unfold qwordL
  simp [show k < (wayQ zs).length by omega]
/-- all quads of the way but the last one are no roots -/
theorem way_next (k : Nat) : ∀ zs : List Int, apB zs = true → zs.sum.toNat ≤ k → ∀ j, j + 1 < (wayQ zs).length → lastQ ((wayQ zs).getD j []) = false := by
  induction k with
  | zero => intro zs h h1; have := apB_sum h; omega
  | succ k ih =>
    intro zs h h1 j hj
    cases hl : lastQ zs
    · have hn := nextQ_good h hl
      cases j with
      | zero => simpa [wayQ] using hl
      | succ j =>
        have e : wayQ zs = zs :: wayQ (nextQ zs) := by unfold wayQ; rw [belowQ_step h hl]
        rw [e] at hj ⊢
        have := ih _ hn.1 (by omega) j (by simpa using hj)
        simpa using this
    · have e : wayQ zs = [zs] := by unfold wayQ; rw [belowQ_last hl]
      rw [e] at hj
      simp at hj
set_option maxRecDepth 20000 in
set_option maxHeartbeats 4000000 in
theorem specDownWord_any (v : Value) (zs : List Int) (w : World) (h : Ints w v zs) :
    Calls Try.prog 17 #[v] w fun e w' => IntsAns w (qwordAns zs) e w' := by
  obtain ⟨ii, hii, ii0, ii1, ii2⟩ := info_parts Try.infoInt
  obtain ⟨p, cap, rfl, hl, _⟩ := id h
  have H := hid h
  clear h
  by_cases hq : apB zs = true ∧ (wayQ zs).length ≤ 200
  · have HA := hid (show qwordAns zs = some (qwordL zs) by unfold qwordAns; rw [if_pos hq])
    have HP := hid (show qwayAns zs = some (wayQ zs) by unfold qwayAns; rw [if_pos hq])
    have HG := hid hq.1
    obtain ⟨n, hn⟩ : ∃ n, (wayQ zs).length = n + 1 := ⟨(wayQ zs).length - 1, by simp [wayQ]⟩
    have hnb : n ≤ 199 := by omega
    have HN := hid hn
    clear hq hn
    go_enter Try.func17, Try.ntmps17
    go_wp2_with fail
    refine (specDownPath_any _ zs _ H.out).mono ?_
    rintro e w1 ⟨v1, rfl, ho, hL⟩
    rw [HP.out] at ho ⊢
    simp only [Option.getD_some] at ho
    obtain ⟨_, _, e1, _, hcs⟩ := id ho.rows
    obtain ⟨a1, c1, rfl, hc1⟩ := ho.shape
    obtain ⟨ad1, _, rfl, _, _⟩ := id (by
      simp only [Value.slice.injEq] at e1
      obtain ⟨rfl, _, rfl⟩ := e1
      exact hcs 0 (by rw [HN.out]; omega))
    have HR := hid ho.rows
    have HL := hid hL
    have hnc : (n : Int) + 1 ≤ (c1 : Int) := by rw [HN.out] at hc1; omega
    rw [HN.out]
    clear ho hL e1 hcs hc1
    have hs1 : ((n : Int) + 1) - 1 = (n : Int) := by omega
    have hnc1 : (n : Int) ≤ (c1 : Int) := by omega
    have hncn : n ≤ c1 := by omega
    go_wp2_with fail
    go_loopw [6, 22] (fun o i wr => ∃ k : Nat, k ≤ n ∧ i = .int .i64 k ∧ OwnInts w1.heap.size wr.heap.size wr o ((qwordL zs).take k) ∧ Later w1 wr) (fun _ i _ => n - (intOf i).toNat)
    case atStart => exact ⟨0, Nat.zero_le _, rfl, OwnInts.nothing0 _ _ _, Later.refl _⟩
    case round =>
      obtain ⟨k, hk, rfl, hO, hLr⟩ := hrel
      have HO := hid hO
      have HLr := hid hLr
      by_cases hlt : k < n
      · obtain ⟨_, _, e1, _, hcs⟩ := HR.out.later hLr
        simp only [Value.slice.injEq] at e1
        obtain ⟨rfl, _, rfl⟩ := e1
        obtain ⟨ad, u, ea, hcell, hu⟩ := hcs k (by rw [HN.out]; omega)
        simp only [Option.some.injEq] at ea
        subst ea
        have hgood := wayQ_good HG.out ((wayQ zs).getD k []) (by rw [List.getD_eq_getElem?_getD, List.getElem?_eq_getElem (by rw [HN.out]; omega)]; exact List.getElem_mem _)
        have hlast := way_next _ zs HG.out (Nat.le_refl _) k (by rw [HN.out]; omega)
        have HTK := hid (qwordL_take n HN.out k hlt)
        have HTL := hid (show ((qwordL zs).take k).length = k by rw [List.length_take, qwordL_len2 zs n HN.out]; omega)
        obtain ⟨q, hq⟩ : ∃ q, (wayQ zs).getD k [] = q := ⟨_, rfl⟩
        rw [hq] at hu hgood hlast HTK
        have HQG := hid hgood
        have HQD := hid (downIx_next hlast)
        obtain ⟨g, hg⟩ : ∃ g, gIx q = g := ⟨_, rfl⟩
        rw [hg] at HQD HTK
        have HU := hid hu
        obtain ⟨o1, o2, rfl, _⟩ := hO.shape
        have hkI : (k : Int) < (n : Int) := by omega
        clear hO hLr hcs hgood hlast hq hg hu
        go_wp2_with fail
        refine (apDown_zs _ q _ HQG.out HU.out).mono ?_
        rintro e w2 ⟨rfl, hL2⟩
        rw [HQD.out]
        have how := (HO.out.later hL2).1
        rw [HTL.out] at how
        have HOA := hid (how.alloc (.cells #[Value.int .i64 (g : Int)] 3))
        have HLT2 := hid how.lt
        have HLA := hid ((HLr.out.trans hL2).trans (Later.alloc w2 (.cells #[Value.int .i64 (g : Int)] 3)))
        have hsz2 : w1.heap.size ≤ w2.heap.size := (HLr.out.trans hL2).size
        rw [HTL.out]
        clear how hL2
        go_wp2_with (at_builtin; refine wpList_append_own_at _ (by rfl) _ _ _ (by rfl) w1.heap.size 3 ii (.int .i64 0) 1 8 Try.underlying22 hii ii0 ii1 ii2 rfl (by omega) (.slice o1 k o2) k (((qwordL zs).take k).map (Value.int .i64)) (by rfl) (by exact HOA.out) ⟨w2.heap.size, 0, none⟩ 1 1 [.int .i64 (g : Int)] (by rfl) (by simp) (cell_one_new _ _ _) (fun u hu => by simp at hu; subst hu; rfl) (by unfold maxLen; omega) (by omega) HLA.out.size ?_)
        intro v4 w4 hown4 hgrow4 _ _
        have HO4 := hid (OwnInts.ofH (zs := (qwordL zs).take (k + 1)) hown4 (by rw [HTK.out]; simp))
        have HL4 := hid (show Later w1 w4 from HLA.out.grown hgrow4 HLA.out.size (fun b hb => (HLT2.out b hb).1))
        clear hown4 hgrow4
        go_wp2_with fail
        go_roundw
        case rel => exact ⟨k + 1, hlt, by go_num, HO4.out, HL4.out⟩
        case measure => simp [intOf]; omega
      · obtain rfl : k = n := by omega
        have HT := hid (show (qwordL zs).take k = qwordL zs from List.take_of_length_le (by rw [qwordL_len2 zs k HN.out]; exact Nat.le_refl _))
        go_wp2_with fail
        go_ret2
        rw [HA.out]
        exact ⟨_, rfl, by simp only [Option.getD_some]; rw [← HT.out]; exact HO.out.wide HL.out.size (Nat.le_refl _), HL.out.trans HLr.out⟩
  · have HA := hid (show qwordAns zs = none by unfold qwordAns; rw [if_neg hq])
    have HP := hid (show qwayAns zs = none by unfold qwayAns; rw [if_neg hq])
    clear hq
    go_enter Try.func17, Try.ntmps17
    go_wp2_with fail
    refine (specDownPath_any _ zs _ H.out).mono ?_
    rintro e w1 ⟨v1, rfl, ho, hL⟩
    rw [HP.out] at ho ⊢
    have HL := hid hL
    clear ho hL
    go_wp2_with fail
    go_ret2
    rw [HA.out]
    exact ⟨_, rfl, OwnInts.nothing0 _ _ _, HL.out⟩
end Go.Proofs.Ytpkdikfjcbmcbab
