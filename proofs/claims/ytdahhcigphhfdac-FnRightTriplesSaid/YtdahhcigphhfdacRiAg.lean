/- Right triples up to a bound in the program: RightUpTo. -/
import Derived.Test.YtdahhcigphhfdacRiAf
import Derived.Test.YtdahhcigphhfdacRiAh
import Derived.Test.YtdahhcigphhfdacRiH
import Derived.Test.YtdahhcigphhfdacBasB
import Derived.Deep.AppendLies
namespace Go.Proofs.Ytdahhcigphhfdac
open Go.RowKit

theorem OwnRts.shapeR {lo : Nat} {w : World} {v : Value} {L : List VP} (h : OwnRts lo w v L) : ∃ a cap, v = .slice a L.length cap ∧ True := by
  rcases h.2 with ⟨rfl, h0⟩ | ⟨g, cap, cur, rfl, _⟩
  · exact ⟨none, 0, by rw [h0], trivial⟩
  · exact ⟨_, _, rfl, trivial⟩
def mkVp (m n : Int) (h : Pair m n) : VP := ⟨(m, n), h⟩
theorem sortVp_all {most : Int} {L : List VP} (h : L.map (·.1) = rowsP most 72) : (sortVp L).map vpL = (allR most 72).map rtL := by
  obtain ⟨h1, h2⟩ := allR_spec most 72
  have hp : (sortVp L).Perm L := List.mergeSort_perm _ _
  have hs : SortR ((sortVp L).map (·.1)) := by
    have htr : ∀ a b c : VP, (!(ltOf cmpVp) b a) = true → (!(ltOf cmpVp) c b) = true → (!(ltOf cmpVp) c a) = true := by
      intro a b c h1 h2
      rw [ltVp] at h1 h2 ⊢
      simp only [Bool.not_eq_true', befR_not] at h1 h2 ⊢
      omega
    have hto : ∀ a b : VP, ((!(ltOf cmpVp) b a) || (!(ltOf cmpVp) a b)) = true := by
      intro a b
      rw [ltVp, ltVp, Bool.or_eq_true]
      simp only [Bool.not_eq_true', befR_not]
      omega
    have hw := List.pairwise_mergeSort htr hto L
    have hn : (L.map (·.1)).Nodup := by rw [h]; exact rowsP_nodup _ _
    have hnS : (sortVp L).Nodup := hp.nodup_iff.2 ((List.pairwise_map.1 hn).imp fun hne e => hne (by rw [e]))
    unfold SortR
    rw [List.pairwise_map]
    refine (hw.and hnS).imp ?_
    rintro a b ⟨hab, hne⟩
    rw [ltVp] at hab
    simp only [Bool.not_eq_true', befR_not] at hab
    cases hb : befR a.1 b.1
    · refine absurd (totVp a b ?_ ?_) hne
      · rw [ltVp]; exact hb
      · rw [ltVp, befR_not]; exact hab
    · rfl
  have e : (sortVp L).map (·.1) = allR most 72 := sortR_same hs h1 (((hp.map _).trans (h ▸ List.Perm.refl _)).trans h2.symm)
  rw [← e, List.map_map]
  rfl

theorem Try.infoRt : (Try.prog.info? 69).map (fun i => (i.zero, i.size, i.bytes)) = some (some (.agg #[.int .i64 0, .int .i64 0, .int .i64 0, .int .i64 0, .int .i64 0]), 5, 40) := by kernel_rfl
set_option maxRecDepth 20000 in
set_option maxHeartbeats 4000000 in
theorem implRightUpTo_any (most : Int) (w : World) : Calls Try.prog 18 #[.int .i64 most] w fun e w' => RowsAns w (upR most) e w' := by
  by_cases hlo : 0 ≤ most
  · by_cases hhi : most ≤ 5000
    · have HA := hid (show upR most = some ((allR most 72).map rtL) by unfold upR; rw [if_pos ⟨hlo, hhi⟩])
      obtain ⟨i0, hi, hz0, hz1, hz2⟩ := info_parts Try.infoRt
      have HTT := hid (fun m n w0 => triple_any m n w0)
      have HR2 := hid (rowsP_two most)
      go_enter Try.func18, Try.ntmps18
      go_wp2_with fail
      go_loopw [4, 5] (fun o i wr => ∃ (M : Nat) (L : List VP), 2 ≤ M ∧ M ≤ 72 ∧ i = .int .i64 M ∧ OwnRts w.heap.size wr o L ∧ L.map (·.1) = rowsP most M ∧ Later w wr) (fun _ i _ => 73 - (intOf i).toNat)
      case atStart => exact ⟨2, [], by omega, by omega, rfl, World.ownsRow_nil _ _ _ _, HR2.out.symm, Later.refl _⟩
      case round =>
        obtain ⟨M, L, hM2, hM, rfl, ho, hR, hL⟩ := hrel
        have HO := hid ho
        have HR := hid hR
        have HLr := hid hL
        have hq0 : (0 : Int) ≤ (M : Int) * M := Int.mul_nonneg (by omega) (by omega)
        have hq1 : (M : Int) * M ≤ 72 * 72 := Int.mul_le_mul (by omega) (by omega) (by omega) (by omega)
        clear ho hR hL
        by_cases hlt : (M : Int) * M < most
        · have hM70 : M ≤ 70 := by
            apply Classical.byContradiction
            intro hn
            have : (71 : Int) * 71 ≤ (M : Int) * M := Int.mul_le_mul (by omega) (by omega) (by omega) (by omega)
            omega
          go_wp2_with fail
          go_loopw [4, 6] (fun o j wr => ∃ (k : Nat) (K : List VP), 1 ≤ k ∧ k ≤ M ∧ j = .int .i64 k ∧ OwnRts w.heap.size wr o K ∧ K.map (·.1) = rowsP most M ++ rowP most M k ∧ Later w wr) (fun _ j _ => M - (intOf j).toNat)
          case atStart => exact ⟨1, L, by omega, by omega, rfl, HO.out, by rw [rowP_one, List.append_nil]; exact HR.out, HLr.out⟩
          case round =>
            clear HO HR HLr
            obtain ⟨k, K, hk1, hkM, rfl, ho, hR, hL⟩ := hrel
            have HO := hid ho
            have HR := hid hR
            have HLr := hid hL
            clear ho hR hL
            by_cases hkl : k < M
            · have HSU := hid (rowP_succ most M k)
              have HKL := hid (show K.length ≤ 1000000 by
                have h1 := congrArg List.length HR.out
                rw [List.length_map, List.length_append] at h1
                have h2 := rowsP_len most M
                have h3 := rowP_len most M k
                have h4 : M * M ≤ 72 * 72 := Nat.mul_le_mul hM hM
                omega)
              cases hp : pairB M k
              · have HT := hid (fun w0 => HTT.out M k w0)
                rw [tripV_no hp] at HT
                have HX := hid (show K.map (·.1) = rowsP most M ++ rowP most M (k + 1) by
                  rw [HSU.out, if_neg (by unfold inR; simp only [hp, Bool.false_and]; simp)]; exact HR.out)
                clear hp
                go_wp2_with fail
                refine (HT.out _).mono ?_
                rintro e w3 ⟨rfl, hL3⟩
                have hA3 := Later.alloc w3 (.cells #[.int .i64 0, .int .i64 0, .int .i64 0, .int .i64 0, .int .i64 0] 69)
                have HO4 := hid ((HO.out.later hL3).later hA3)
                have HL4 := hid ((HLr.out.trans hL3).trans hA3)
                clear hL3 hA3
                go_wp2_with fail
                generalize w3.alloc (.cells #[.int .i64 0, .int .i64 0, .int .i64 0, .int .i64 0, .int .i64 0] 69) = w4 at HO4 HL4 ⊢
                go_roundw
                case rel => exact ⟨k + 1, K, by omega, hkl, by go_num, HO4.out, HX.out, HL4.out⟩
                case measure => simp [intOf]; omega
              · have HT := hid (fun w0 => HTT.out M k w0)
                rw [tripV_yes hp] at HT
                have HP := hid (pairB_iff.1 hp)
                have hk2 : (k : Int) * k ≤ 72 * 72 := Int.mul_le_mul (by omega) (by omega) (by omega) (by omega)
                have hk3 : (0 : Int) ≤ (k : Int) * k := Int.mul_nonneg (by omega) (by omega)
                have hk4 : (0 : Int) ≤ (M : Int) * k := Int.mul_nonneg (by omega) (by omega)
                obtain ⟨hd0, hd1⟩ : 0 ≤ (M : Int) * M - k * k ∧ 0 ≤ 2 * (M : Int) * k := by
                  have := HP.out.prods
                  omega
                by_cases hz : (M : Int) * M + k * k ≤ most
                · have HX := hid (show (K ++ [mkVp (M : Int) (k : Int) HP.out]).map (·.1) = rowsP most M ++ rowP most M (k + 1) by
                    rw [HSU.out, if_pos (by unfold inR; rw [hp, Bool.true_and]; exact decide_eq_true hz), List.map_append, HR.out, List.append_assoc]; rfl)
                  clear hp
                  go_wp2_with fail
                  refine (HT.out _).mono ?_
                  rintro e w3 ⟨rfl, hL3⟩
                  have hA3 := Later.alloc w3 (.cells #[.int .i64 (M : Int), .int .i64 (k : Int), .int .i64 ((M : Int) * M - k * k), .int .i64 (2 * M * k), .int .i64 ((M : Int) * M + k * k)] 69)
                  have HO4 := hid ((HO.out.later hL3).later hA3)
                  have HL4 := hid ((HLr.out.trans hL3).trans hA3)
                  obtain ⟨r0, r1, r2, r3, r4⟩ := arr5_alloc w3 (.int .i64 (M : Int)) (.int .i64 (k : Int)) (.int .i64 ((M : Int) * M - k * k)) (.int .i64 (2 * M * k)) (.int .i64 ((M : Int) * M + k * k)) 69
                  clear hL3 hA3
                  go_upto_region 12 with fail
                  have HWS := hid (show w.heap.size ≤ w3.heap.size + 1 by have := HL4.out.size; simp at this; exact this)
                  generalize w3.alloc (.cells #[.int .i64 (M : Int), .int .i64 (k : Int), .int .i64 ((M : Int) * M - k * k), .int .i64 (2 * M * k), .int .i64 ((M : Int) * M + k * k)] 69) = w4 at HO4 HL4 r0 r1 r2 r3 r4 ⊢
                  have hA4 := Later.alloc w4 (.cells #[.int .i64 (M : Int), .int .i64 (k : Int), .int .i64 ((M : Int) * M - k * k), .int .i64 (2 * M * k), .int .i64 ((M : Int) * M + k * k)] 69)
                  have HO5 := hid (HO4.out.later hA4)
                  have HL5 := hid (HL4.out.trans hA4)
                  have hkl5 := HKL.out
                  have hws5 := HL4.out.size
                  clear hA4 HO4
                  go_wp2_with (at_builtin; refine wpList_append_lies _ (by rfl) _ _ _ (by rfl) w.heap.size 69 i0 (.agg #[.int .i64 0, .int .i64 0, .int .i64 0, .int .i64 0, .int .i64 0]) 5 40 Try.underlying75 hi hz0 hz1 hz2 rfl (by omega) _ K.length (rtCells K) (by rfl) (by exact HO5.out) ⟨w4.heap.size, 0, none⟩ 1 1 [.int .i64 (M : Int), .int .i64 (k : Int), .int .i64 ((M : Int) * M - k * k), .int .i64 (2 * M * k), .int .i64 ((M : Int) * M + k * k)] (by rfl) (by rfl) (World.news_of_block (cs := #[.int .i64 (M : Int), .int .i64 (k : Int), .int .i64 ((M : Int) * M - k * k), .int .i64 (2 * M * k), .int .i64 ((M : Int) * M + k * k)]) (t := 69) (fr := (0, 0)) (heap_alloc_new w4 _)) (by simp [Value.oneCell']) (by omega) (by unfold maxLen; omega) (by omega) (by simp; omega) (w4.heap.size + 1) (by simp) ?_)
                  intro g cap1 w9 hown9 hgrow hat hglt
                  have HO9 := hid (show OwnRts w.heap.size w9 (.slice (some ⟨g, 0, none⟩) (K.length + 1) cap1) (K ++ [mkVp (M : Int) (k : Int) HP.out]) by
                    unfold OwnRts; rw [rtCells_snoc, List.length_append]; exact hown9)
                  have HL9 := hid (show Later w w9 from HL5.out.grown hgrow (by simp; omega) (fun b' hb' => (HO5.out.lt b' hb').1))
                  clear hown9 hgrow hat r0 r1 r2 r3 r4
                  go_wp2_with fail
                  go_roundw
                  case rel => exact ⟨k + 1, _, by omega, hkl, by go_num, HO9.out, HX.out, HL9.out⟩
                  case measure => simp [intOf]; omega
                · have HX := hid (show K.map (·.1) = rowsP most M ++ rowP most M (k + 1) by
                    rw [HSU.out, if_neg (by unfold inR; simp only [hp, Bool.true_and, decide_eq_true_iff]; exact hz)]; exact HR.out)
                  clear hp
                  go_wp2_with fail
                  refine (HT.out _).mono ?_
                  rintro e w3 ⟨rfl, hL3⟩
                  have hA3 := Later.alloc w3 (.cells #[.int .i64 (M : Int), .int .i64 (k : Int), .int .i64 ((M : Int) * M - k * k), .int .i64 (2 * M * k), .int .i64 ((M : Int) * M + k * k)] 69)
                  have HO4 := hid ((HO.out.later hL3).later hA3)
                  have HL4 := hid ((HLr.out.trans hL3).trans hA3)
                  obtain ⟨r0, r1, r2, r3, r4⟩ := arr5_alloc w3 (.int .i64 (M : Int)) (.int .i64 (k : Int)) (.int .i64 ((M : Int) * M - k * k)) (.int .i64 (2 * M * k)) (.int .i64 ((M : Int) * M + k * k)) 69
                  clear hL3 hA3
                  go_wp2_with fail
                  generalize w3.alloc (.cells #[.int .i64 (M : Int), .int .i64 (k : Int), .int .i64 ((M : Int) * M - k * k), .int .i64 (2 * M * k), .int .i64 ((M : Int) * M + k * k)] 69) = w4 at HO4 HL4 r0 r1 r2 r3 r4 ⊢
                  go_roundw
                  case rel => exact ⟨k + 1, K, by omega, hkl, by go_num, HO4.out, HX.out, HL4.out⟩
                  case measure => simp [intOf]; omega
            · have hkM' : k = M := by omega
              subst hkM'
              have HX := hid (show K.map (·.1) = rowsP most (k + 1) from HR.out)
              go_wp2_with fail
              go_roundw
              case rel => exact ⟨k + 1, K, by omega, by omega, by go_num, HO.out, HX.out, HLr.out⟩
              case measure => simp [intOf]; omega
        · have HE := hid (show (sortVp L).map vpL = (allR most 72).map rtL from sortVp_all (by rw [HR.out]; exact (rowsP_stop (by omega) hM).symm))
          have HSL := hid (show (sortVp L).length = L.length from List.length_mergeSort _)
          have HKL := hid (show L.length ≤ 1000000 by
            have h1 := congrArg List.length HR.out
            rw [List.length_map] at h1
            have h2 := rowsP_len most M
            have h4 : M * M ≤ 72 * 72 := Nat.mul_le_mul hM hM
            omega)
          obtain ⟨R, hRe⟩ : ∃ R, (allR most 72).map rtL = R := ⟨_, rfl⟩
          rw [hRe] at HA HE
          clear hRe
          have hws := HLr.out.size
          go_wp2_with fail
          refine (sortVp_any w _ L _ HLr.out (Nat.le_refl _) HKL.out HO.out).mono ?_
          rintro e w5 ⟨rfl, hO5, hL5⟩
          have HO5 := hid hO5
          have HL5 := hid hL5
          clear hO5 hL5
          have HRT := hid (show Rts w5 _ (sortVp L) from HO5.out.rts (by rw [HSL.out]; have := HKL.out; omega))
          go_wp2_with fail
          refine (listsOfR_any _ (sortVp L) _ (by rw [HSL.out]; have := HKL.out; omega) HRT.out).mono ?_
          rintro e w6 ⟨v6, rfl, hown, hL6⟩
          have HO6 := hid (show OwnRows w.heap.size w6.heap.size w6 v6 R by rw [← HE.out]; exact hown.wide HL5.out.size (Nat.le_refl _))
          have HL6 := hid (HL5.out.trans hL6)
          clear hown hL6
          go_wp2_with fail
          go_ret2
          rw [HA.out]
          exact ⟨_, rfl, HO6.out, HL6.out⟩
    · have HA := hid (show upR most = none by unfold upR; rw [if_neg (fun h => hhi h.2)])
      go_enter Try.func18, Try.ntmps18
      go_wp2_with fail
      go_ret2
      rw [HA.out]
      exact ⟨_, rfl, OwnRows.noneR _ _ _, Later.refl _⟩
  · have HA := hid (show upR most = none by unfold upR; rw [if_neg (fun h => hlo h.1)])
    go_enter Try.func18, Try.ntmps18
    go_wp2_with fail
    go_ret2
    rw [HA.out]
    exact ⟨_, rfl, OwnRows.noneR _ _ _, Later.refl _⟩
end Go.Proofs.Ytdahhcigphhfdac
