/- Four curvatures: list, FollowSwaps, SwapAt, ScaleOf (the program). -/
import Derived.Test.YtoaopmafokoaoaaQdD
import Derived.Test.YtoaopmafokoaoaaQdF
import Derived.Test.YtoaopmafokoaoaaLayCloneI
namespace Go.Proofs.Ytoaopmafokoaoaa
open Go.RowKit

set_option maxRecDepth 20000 in
set_option maxHeartbeats 2000000 in
theorem listQ_any (a b c d : Int) (w : World) :
    Calls Try.prog 95 #[.agg #[.int .i64 a, .int .i64 b, .int .i64 c, .int .i64 d]] w fun e w' => MadeInts w [a, b, c, d] e w' := by
  have HL := hid (Later.alloc w (.cells #[.int .i64 a, .int .i64 b, .int .i64 c, .int .i64 d] 112))
  have HB := hid (QBox.new w a b c d)
  go_enter Try.func95, Try.ntmps95
  go_wp2_with fail
  generalize w.alloc (.cells #[.int .i64 a, .int .i64 b, .int .i64 c, .int .i64 d] 112) = w1 at HL HB ⊢
  refine (Any.slices_Clone_int laysLays215 w.heap.size 0 4 4 [a, b, c, d] w1 (by simp) (by omega) (fun j hj => ?_)).mono ?_
  · rw [Nat.zero_add, (HB.out.at j (by simpa using hj)).1]
  rintro e w3 ⟨v3, rfl, ho, _, hb⟩
  have HL3 := hid (HL.out.trans hb)
  have HO : Hid (OwnInts w1.heap.size w3.heap.size w3 v3 [a, b, c, d]) := hid (OwnInts.ofH ho (by simp))
  clear hb ho
  go_wp2_with fail
  go_ret
  exact ⟨_, rfl, HO.out.wide HL.out.size (Nat.le_refl _), HL3.out⟩

theorem areIndices4_any (v : Value) (zs : List Int) (w : World) (h : Ints w v zs) :
    Calls Try.prog 93 #[v, .int .i64 4] w fun e w' => e = .returned (.bool (zs.all (within 0 3))) ∧ w = w' := by
  obtain ⟨p, cap, rfl, hl, hc⟩ := h
  have HC := hid hc
  clear hc
  go_enter Try.func93, Try.ntmps93
  go_wp2_with fail
  go_loop [9] (fun i => ∃ k : Nat, k ≤ zs.length ∧ i = .int .i64 k ∧ (zs.take k).all (within 0 3) = true) (fun i => zs.length - (intOf i).toNat)
  case atStart => exact ⟨0, Nat.zero_le _, rfl, rfl⟩
  case round =>
    obtain ⟨k, hk, rfl, hal⟩ := hrel
    have HA := hid hal
    clear hal
    by_cases hlt : k < zs.length
    · obtain ⟨ad, rfl, hcell⟩ := HC.out k hlt
      simp only [getD_at zs k hlt] at hcell
      by_cases h1 : zs[k] < 0
      · go_wp2_with fail
        go_ret
        exact ⟨ret_bool (all_false_at _ zs k hlt (by simp [within]; omega)).symm, rfl⟩
      · by_cases h2 : 4 ≤ zs[k]
        · go_wp2_with fail
          go_ret
          exact ⟨ret_bool (all_false_at _ zs k hlt (by simp [within]; omega)).symm, rfl⟩
        · go_wp2_with fail
          go_round
          case rel => exact ⟨k + 1, hlt, by go_num, all_take_succ _ zs k hlt HA.out (by simp [within]; omega)⟩
          case measure => simp [intOf]; omega
    · go_wp2_with fail
      go_ret
      exact ⟨ret_bool (by rw [← HA.out, List.take_of_length_le (by omega)]), rfl⟩
theorem areIndices4_as (v : Value) (zs : List Int) (o : Bool) (w : World) (ho : zs.all (within 0 3) = o) (h : Ints w v zs) :
    Calls Try.prog 93 #[v, .int .i64 4] w fun e w' => e = .returned (.bool o) ∧ w = w' := by
  subst ho; exact areIndices4_any v zs w h

set_option maxRecDepth 20000 in
set_option maxHeartbeats 4000000 in
theorem implFollowSwaps_any (v u : Value) (zs word : List Int) (w : World) (h : Ints w v zs) (hu : Ints w u word) :
    Calls Try.prog 39 #[v, u] w fun e w' => IntsAns w (followAns zs word) e w' := by
  obtain ⟨p, cap, rfl, hl, _⟩ := id h
  obtain ⟨p2, cap2, rfl, hl2, hcw⟩ := id hu
  have H := hid h
  have HU := hid hu
  have HCW := hid hcw
  clear h hu hcw
  cases hg : apB zs
  · have HG := hid hg
    have HA := hid (show followAns zs word = none by unfold followAns; rw [hg]; simp)
    clear hg
    go_enter Try.func39, Try.ntmps39
    go_wp2_with fail
    refine (quadOf_no _ zs _ HG.out H.out).mono ?_
    rintro e w1 ⟨rfl, hL⟩
    have HL := hid (hL.trans (Later.alloc w1 (.cells #[.int .i64 0, .int .i64 0, .int .i64 0, .int .i64 0] 112)))
    clear hL
    go_wp2_with fail
    go_ret2
    rw [HA.out]
    exact ⟨_, rfl, OwnInts.nothing0 _ _ _, HL.out⟩
  · have HG := hid hg
    obtain ⟨a, b, c, d, rfl, hq⟩ := apB_four hg
    by_cases h200 : (200 : Int) < (word.length : Int)
    · have HA := hid (show followAns [a, b, c, d] word = none by unfold followAns; rw [if_neg (by omega)])
      clear hg hq
      go_enter Try.func39, Try.ntmps39
      go_wp2_with fail
      refine (quadOf_yes _ a b c d _ HG.out H.out).mono ?_
      rintro e w1 ⟨rfl, hL⟩
      have HL := hid (hL.trans (Later.alloc w1 (.cells #[.int .i64 a, .int .i64 b, .int .i64 c, .int .i64 d] 112)))
      clear hL
      go_wp2_with fail
      go_ret2
      rw [HA.out]
      exact ⟨_, rfl, OwnInts.nothing0 _ _ _, HL.out⟩
    · cases hi : word.all (within 0 3)
      · have HI := hid hi
        have HA := hid (show followAns [a, b, c, d] word = none by unfold followAns; rw [hi]; simp)
        clear hg hq hi
        go_enter Try.func39, Try.ntmps39
        go_wp2_with fail
        refine (quadOf_yes _ a b c d _ HG.out H.out).mono ?_
        rintro e w1 ⟨rfl, hL⟩
        have hA := hL.trans (Later.alloc w1 (.cells #[.int .i64 a, .int .i64 b, .int .i64 c, .int .i64 d] 112))
        have HL := hid hA
        have HU2 := hid (HU.out.later hA)
        clear hL hA
        go_wp2_with fail
        refine (areIndices4_as _ word _ _ HI.out HU2.out).mono ?_
        rintro e w' ⟨rfl, rfl⟩
        go_wp2_with fail
        go_ret2
        rw [HA.out]
        exact ⟨_, rfl, OwnInts.nothing0 _ _ _, HL.out⟩
      · have HI := hid hi
        obtain ⟨F, hF⟩ : ∃ F, followL [a, b, c, d] word = F := ⟨_, rfl⟩
        have HF := hid hF
        have HA := hid (show followAns [a, b, c, d] word = F by unfold followAns; rw [if_pos ⟨hg, by omega, hi⟩, hF])
        clear hg hq hi hF
        go_enter Try.func39, Try.ntmps39
        go_wp2_with fail
        refine (quadOf_yes _ a b c d _ HG.out H.out).mono ?_
        rintro e w1 ⟨rfl, hL⟩
        have hA := hL.trans (Later.alloc w1 (.cells #[.int .i64 a, .int .i64 b, .int .i64 c, .int .i64 d] 112))
        have HB := hid (QBox.new w1 a b c d)
        have HL := hid hA
        have HU2 := hid (HU.out.later hA)
        have HBW0 := hid hL.size
        clear hL hA
        go_wp2_with fail
        refine (areIndices4_as _ word _ _ HI.out HU2.out).mono ?_
        rintro e w' ⟨rfl, rfl⟩
        go_wp2_with fail
        generalize w1.alloc (.cells #[.int .i64 a, .int .i64 b, .int .i64 c, .int .i64 d] 112) = w2 at HB HL HU2 ⊢
        obtain ⟨B, hB⟩ : ∃ B, w1.heap.size = B := ⟨_, rfl⟩
        have HBW := hid (show w.heap.size ≤ B by rw [← hB]; exact HBW0.out)
        rw [hB] at HB ⊢
        clear hB HBW0
        go_loopw [29] (fun i wr => ∃ (k : Nat) (x y z t : Int), k ≤ word.length ∧ i = .int .i64 k ∧ apB [x, y, z, t] = true ∧ followL [x, y, z, t] (word.drop k) = F ∧ QBox wr B x y z t ∧ Later w wr) (fun i _ => word.length - (intOf i).toNat)
        case atStart => exact ⟨0, a, b, c, d, Nat.zero_le _, rfl, HG.out, by rw [List.drop_zero]; exact HF.out, HB.out, HL.out⟩
        case round =>
          clear HB HL HU2
          obtain ⟨k, x, y, z, t, hk, rfl, hgc, hfc, hO, hL⟩ := hrel
          have HGC := hid hgc
          have HFC := hid hfc
          have HO := hid hO
          have HL := hid hL
          have HM := hid ((apB_iff x y z t).1 hgc).md
          obtain ⟨c0, c1, c2, c3, f0, f1, f2, f3⟩ := hO
          clear hgc hfc
          by_cases hlt : k < word.length
          · obtain ⟨wad, rfl, hcell⟩ := HCW.out k hlt
            have hi3 := word_at HI.out k hlt
            have hfd := follow_drop [x, y, z, t] word k hlt
            rw [HFC.out] at hfd
            obtain ⟨i, hi⟩ : ∃ i, word.getD k 0 = i := ⟨_, rfl⟩
            rw [hi] at hcell hi3 hfd
            replace hcell := hL.cell hcell
            obtain ⟨j, rfl⟩ : ∃ j : Nat, i = (j : Int) := ⟨i.toNat, by omega⟩
            rw [Int.toNat_natCast] at hfd
            have HJ := hid (show j < 4 by omega)
            have hj4 : (j : Int) < 4 := by omega
            have hj0 : (0 : Int) ≤ (j : Int) := by omega
            have HGS := hid (swL_good HGC.out j HJ.out)
            have HAT := hid (swL_at [x, y, z, t] j HJ.out)
            have HFD := hid hfd
            clear hi hi3 hfd hL
            go_wp2_with fail
            refine (swapped_any x y z t j _ HJ.out HM.out).mono ?_
            rintro e w3 ⟨p', q', r', s', hpq, rfl, hL3⟩
            have HO3 := hid (HO.out.later hL3)
            have HL3 := hid (HL.out.trans hL3)
            rw [hpq] at HGS HFD HAT
            obtain ⟨n, hn⟩ : ∃ n, swN [x, y, z, t] j = n := ⟨_, rfl⟩
            rw [hn] at HGS HFD HAT
            clear c0 c1 c2 c3 f0 f1 f2 f3 hL3 hpq hn
            obtain ⟨c0, c1, c2, c3, f0, f1, f2, f3⟩ := HO3.out
            have HO4 := hid (HO3.out.set p' q' r' s')
            have HL4 := hid (setQ_later HL3.out HBW.out p' q' r' s')
            have d := (HO4.out.at j HJ.out).1
            rw [HAT.out] at d
            by_cases hx : n ≤ 100000
            · have HGS2 := hid (show apB [p', q', r', s'] = true by rw [HGS.out, decide_eq_true hx])
              have HF2 := hid (show followL [p', q', r', s'] (word.drop (k + 1)) = F by rw [HFD.out, if_pos hx])
              go_wp2_with fail
              go_roundw
              case rel => exact ⟨k + 1, p', q', r', s', hlt, by go_num, HGS2.out, HF2.out, HO4.out, HL4.out⟩
              case measure => simp [intOf]; omega
            · have HF2 := hid (show F = none by rw [HFD.out, if_neg hx])
              go_wp2_with fail
              go_ret2
              rw [HA.out, HF2.out]
              exact ⟨_, rfl, OwnInts.nothing0 _ _ _, HL4.out⟩
          · have HF2 := hid (show F = some [x, y, z, t] by rw [← HFC.out, List.drop_eq_nil_of_le (by omega)]; rfl)
            go_wp2_with fail
            refine (listQ_any x y z t _).mono ?_
            rintro e w3 ⟨v3, rfl, ho3, hL3⟩
            have HO3 := hid (ho3.wide HL.out.size (Nat.le_refl _))
            have HL3 := hid (HL.out.trans hL3)
            clear ho3 hL3
            go_wp2_with fail
            go_ret2
            rw [HA.out, HF2.out]
            exact ⟨_, rfl, HO3.out, HL3.out⟩
set_option maxRecDepth 20000 in
set_option maxHeartbeats 2000000 in
theorem implSwapAt_any (v : Value) (zs : List Int) (i : Int) (w : World) (h : Ints w v zs) :
    Calls Try.prog 35 #[v, .int .i64 i] w fun e w' => IntsAns w (swapAns zs i) e w' := by
  obtain ⟨p, cap, rfl, hl, _⟩ := id h
  have hA := Later.alloc w (.cells #[.int .i64 i] 3)
  have H := hid (h.later hA)
  have HL := hid hA
  have HI : Hid (Ints (w.alloc (.cells #[.int .i64 i] 3)) (.slice (some ⟨w.heap.size, 0, none⟩) 1 1) [i]) := hid ⟨_, 1, rfl, by simp, fun k hk => ⟨_, rfl, by
    obtain rfl : k = 0 := by simpa using hk
    rw [addr_add0]
    simp [go_sem]⟩⟩
  have HE := hid (followAns_one zs i)
  clear h hA
  go_enter Try.func35, Try.ntmps35
  go_wp2_with fail
  generalize w.alloc (.cells #[.int .i64 i] 3) = w1 at H HL HI ⊢
  refine (implFollowSwaps_any _ _ zs [i] _ H.out HI.out).mono ?_
  rintro e w2 ⟨v2, rfl, ho, hL⟩
  rw [HE.out] at ho ⊢
  have HO := hid (ho.wide HL.out.size (Nat.le_refl _))
  have HL2 := hid (HL.out.trans hL)
  clear ho hL
  go_wp2_with fail
  go_ret2
  exact ⟨_, rfl, HO.out, HL2.out⟩
end Go.Proofs.Ytoaopmafokoaoaa
