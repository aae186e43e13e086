/- Pairs up to a bound (the model): juTask, juUpTo, PairsUpTo, ClassesUpTo. -/
import Derived.Test.YtdahhcigphhfdaaJuPS
import Derived.Test.YtdahhcigphhfdaaJg
namespace Go.Proofs.Ytdahhcigphhfdaa
open Go.RowKit

theorem puOk_no {k c m : Int} (h : puOk k c m = false) : juW k c = false ∨ (juW k c = true ∧ ¬ (0 ≤ m ∧ m ≤ 200)) := by
  cases hW : juW k c
  · exact .inl rfl
  · refine .inr ⟨rfl, fun hh => ?_⟩
    rw [puOk_iff.2 ⟨hW, hh⟩] at h
    cases h
set_option maxHeartbeats 1000000 in
theorem juTask_any (k c m : Int) (w : World) :
    Calls Try.prog 72 #[.int .i64 k, .int .i64 c, .int .i64 m] w fun e w' => e = .returned (.bool (puOk k c m)) ∧ w = w' := by
  cases hP : puOk k c m
  · rcases puOk_no hP with hW | ⟨hW, hm⟩
    · have HW := hid hW
      clear hP hW
      go_enter Try.func72, Try.ntmps72
      go_wp2_with (go_at_call 87; refine (juGiven_as _ _ _ _ HW.out).mono ?_; rintro e w2 ⟨rfl, rfl⟩)
      go_ret
      exact ⟨rfl, rfl⟩
    · have HW := hid hW
      have hw := within_no hm
      clear hP hW hm
      go_enter Try.func72, Try.ntmps72
      go_wp2_with (first | (go_at_call 87; refine (juGiven_as _ _ _ _ HW.out).mono ?_; rintro e w2 ⟨rfl, rfl⟩) | (go_at_call 86; refine (l1In_any _ _ _ _).mono ?_; rintro e w2 ⟨rfl, rfl⟩))
      go_ret
      exact ⟨rfl, rfl⟩
  · obtain ⟨hW, hm⟩ := puOk_iff.1 hP
    have HW := hid hW
    have hw := within_yes hm.1 hm.2
    clear hP hW hm
    go_enter Try.func72, Try.ntmps72
    go_wp2_with (first | (go_at_call 87; refine (juGiven_as _ _ _ _ HW.out).mono ?_; rintro e w2 ⟨rfl, rfl⟩) | (go_at_call 86; refine (l1In_any _ _ _ _).mono ?_; rintro e w2 ⟨rfl, rfl⟩))
    go_ret
    exact ⟨rfl, rfl⟩
theorem juTask_as (k c m : Int) (b : Bool) (w : World) (h : puOk k c m = b) :
    Calls Try.prog 72 #[.int .i64 k, .int .i64 c, .int .i64 m] w fun e w' => e = .returned (.bool b) ∧ w = w' := by
  subst h; exact juTask_any k c m w
def upP (k c : Int) (least : Bool) (p : Jp2) : Bool := goodP k c p && (!least || leastP k p)
set_option maxRecDepth 20000 in
set_option maxHeartbeats 4000000 in
theorem juUpTo_any (k c : Int) (N : Nat) (least : Bool) (w : World) (hW : juW k c = true) (hN : N ≤ 200) :
    Calls Try.prog 73 #[.int .i64 k, .int .i64 c, .int .i64 N, .bool least] w fun e w' => ∃ v, e = .returned v ∧ OwnRows w.heap.size w'.heap.size w' v (((gridJ (N + 1)).filter (upP k c least)).map jpL) ∧ Later w w' := by
  have HW := hid hW
  obtain ⟨k1, k2, _, _⟩ := juW_iff.1 hW
  clear hW
  go_enter Try.func73, Try.ntmps73
  go_wp2_with fail
  go_loopw [9, 10] (fun o i wr => ∃ x : Nat, x ≤ N + 1 ∧ i = .int .i64 x ∧ OwnRows w.heap.size wr.heap.size wr o (((gridJ x).filter (upP k c least)).map jpL) ∧ Later w wr) (fun _ i _ => N + 1 - (intOf i).toNat)
  case atStart => exact ⟨0, Nat.zero_le _, rfl, OwnRows.noneH _ _ _, Later.refl _⟩
  case round =>
    obtain ⟨x, hx, rfl, hO, hL⟩ := hrel
    have HO := hid hO
    have HL := hid hL
    obtain ⟨o1, o2, rfl, _⟩ := hO.shape
    clear hO hL
    by_cases hlt : x < N + 1
    · have hlI : (x : Int) ≤ (N : Int) := by omega
      go_wp2_with fail
      go_loopw [9, 11] (fun o j wi => ∃ y : Nat, y ≤ x + 1 ∧ j = .int .i64 y ∧ OwnRows w.heap.size wi.heap.size wi o (((gridJ x ++ rowJ x y).filter (upP k c least)).map jpL) ∧ Later w wi) (fun _ j _ => x + 1 - (intOf j).toNat)
      case atStart => exact ⟨0, Nat.zero_le _, rfl, by rw [rowJ_zero, List.append_nil]; exact HO.out, HL.out⟩
      case round =>
        clear HO HL
        obtain ⟨y, hy, rfl, hO, hL⟩ := hrel
        have HFIL := hid (filter_snocJ (upP k c least) (gridJ x ++ rowJ x y) ((x : Int), (y : Int)))
        have HSL := hid (filter_len_le (P := upP k c least) _ (seenJ_len (n := x) (m := y) (by omega) (by omega)))
        have HROW := hid (show gridJ x ++ rowJ x (y + 1) = gridJ x ++ rowJ x y ++ [((x : Int), (y : Int))] by rw [rowJ_succ, List.append_assoc])
        obtain ⟨M, hM⟩ : ∃ M, (gridJ x ++ rowJ x y).filter (upP k c least) = M := ⟨_, rfl⟩
        rw [hM] at hO HFIL HSL
        have HM := hid hM
        have HO := hid hO
        have HL := hid hL
        obtain ⟨p1, p2, rfl, _⟩ := hO.shape
        have hlen : (M.map jpL).length = M.length := by simp
        rw [hlen] at HO ⊢
        have HW1 := hid (show w.heap.size ≤ wr.heap.size from HL.out.size)
        clear hM hO hL
        by_cases hyl : y < x + 1
        · have hyI : (y : Int) ≤ (x : Int) := by omega
          have HN := hid (show jpN ((x : Int), (y : Int)) from ⟨by simp only; omega, by simp only; omega, by simp only; omega⟩)
          cases hG : juGd x y k c
          · have HG := hid hG
            have HE := hid (show (gridJ x ++ rowJ x (y + 1)).filter (upP k c least) = M by
              rw [HROW.out, HFIL.out]
              have : upP k c least ((x : Int), (y : Int)) = false := by unfold upP goodP; simp only; rw [hG]; rfl
              rw [this]; simp)
            clear hG hlen
            go_wp2_with (go_at_call 88; refine (juGood_as _ _ _ _ _ _ HW.out HG.out).mono ?_; rintro e w2 ⟨rfl, rfl⟩)
            go_roundw
            case rel => exact ⟨y + 1, hyl, by go_num, by rw [HE.out]; simpa using HO.out, HL.out⟩
            case measure => simp [intOf]; omega
          · cases hd : dnJ k ((x : Int), (y : Int)) with
            | none =>
              have HG := hid hG
              have HD := hid (fun w0 => juDown_as x y k w0 ⟨by omega, by omega⟩ HN.out _ hd)
              have HE := hid (show (gridJ x ++ rowJ x (y + 1)).filter (upP k c least) = M ++ [((x : Int), (y : Int))] by
                rw [HROW.out, HFIL.out]
                have : upP k c least ((x : Int), (y : Int)) = true := by unfold upP goodP leastP; simp only; rw [hG, hd]; simp
                rw [this]; simp)
              have HLN := hid (show (M.map jpL).length ≤ 1000000 by rw [hlen]; have := HSL.out; omega)
              obtain ⟨MM, hMM⟩ : ∃ MM, M.map jpL = MM := ⟨_, rfl⟩
              have HMM := hid hMM
              have HLEN := hid hlen
              rw [hMM] at HO HLN HLEN
              clear hG hd hMM hlen
              cases least
              · go_wp2_with (first
                  | (go_at_call 88; refine (juGood_as _ _ _ _ _ _ HW.out HG.out).mono ?_; rintro e w2 ⟨rfl, rfl⟩)
                  | (go_at_call 136; refine (HD.out _).mono ?_; rintro e w2 ⟨rfl, rfl⟩; simp only [Option.getD_none, Option.isSome_none])
                  | (at_builtin; refine wpList_push2 (by rfl) _ _ (by rfl) w.heap.size wr _ (.slice p1 M.length p2) MM (x : Int) (y : Int) (by rfl) HW1.out HO.out HLN.out (by rfl) rfl ?_))
                intro g' cap1 w7 hO7 hG7 _
                have HO7 := hid hO7
                have HL7 := hid (show Later w w7 from later_grown HL.out hG7 (fun b' hb' => by obtain ⟨us, _, hus, _⟩ := HO.out.partsH; exact (hus.lt b' hb').1))
                clear hO7 hG7
                rw [HLEN.out] at HO7 ⊢
                have HO8 := hid (show OwnRows w.heap.size w7.heap.size w7 (.slice (some ⟨g', 0, none⟩) (M.length + 1) cap1) ((M ++ [((x : Int), (y : Int))]).map jpL) by have h := HO7.out; rw [← HMM.out] at h; simpa [jpL] using h)
                go_wp2_with fail
                go_roundw
                case rel => exact ⟨y + 1, hyl, by go_num, by rw [HE.out]; simpa using HO8.out, HL7.out⟩
                case measure => simp [intOf]; omega
              · go_wp2_with (first
                  | (go_at_call 88; refine (juGood_as _ _ _ _ _ _ HW.out HG.out).mono ?_; rintro e w2 ⟨rfl, rfl⟩)
                  | (go_at_call 136; refine (HD.out _).mono ?_; rintro e w2 ⟨rfl, rfl⟩; simp only [Option.getD_none, Option.isSome_none])
                  | (at_builtin; refine wpList_push2 (by rfl) _ _ (by rfl) w.heap.size wr _ (.slice p1 M.length p2) MM (x : Int) (y : Int) (by rfl) HW1.out HO.out HLN.out (by rfl) rfl ?_))
                intro g' cap1 w7 hO7 hG7 _
                have HO7 := hid hO7
                have HL7 := hid (show Later w w7 from later_grown HL.out hG7 (fun b' hb' => by obtain ⟨us, _, hus, _⟩ := HO.out.partsH; exact (hus.lt b' hb').1))
                clear hO7 hG7
                rw [HLEN.out] at HO7 ⊢
                have HO8 := hid (show OwnRows w.heap.size w7.heap.size w7 (.slice (some ⟨g', 0, none⟩) (M.length + 1) cap1) ((M ++ [((x : Int), (y : Int))]).map jpL) by have h := HO7.out; rw [← HMM.out] at h; simpa [jpL] using h)
                go_wp2_with fail
                go_roundw
                case rel => exact ⟨y + 1, hyl, by go_num, by rw [HE.out]; simpa using HO8.out, HL7.out⟩
                case measure => simp [intOf]; omega
            | some q =>
              obtain ⟨qa, qb⟩ := q
              cases least
              · have HG := hid hG
                have HD := hid (fun w0 => juDown_as x y k w0 ⟨by omega, by omega⟩ HN.out _ hd)
                have HE := hid (show (gridJ x ++ rowJ x (y + 1)).filter (upP k c false) = M ++ [((x : Int), (y : Int))] by
                  rw [HROW.out, HFIL.out]
                  have : upP k c false ((x : Int), (y : Int)) = true := by simp [upP, goodP, hG]
                  rw [this]; simp)
                have HLN := hid (show (M.map jpL).length ≤ 1000000 by rw [hlen]; have := HSL.out; omega)
                obtain ⟨MM, hMM⟩ : ∃ MM, M.map jpL = MM := ⟨_, rfl⟩
                have HMM := hid hMM
                have HLEN := hid hlen
                rw [hMM] at HO HLN HLEN
                clear hG hd hMM hlen
                go_wp2_with (first
                  | (go_at_call 88; refine (juGood_as _ _ _ _ _ _ HW.out HG.out).mono ?_; rintro e w2 ⟨rfl, rfl⟩)
                  | (go_at_call 136; refine (HD.out _).mono ?_; rintro e w2 ⟨rfl, rfl⟩; simp only [Option.getD_some, Option.isSome_some])
                  | (at_builtin; refine wpList_push2 (by rfl) _ _ (by rfl) w.heap.size wr _ (.slice p1 M.length p2) MM (x : Int) (y : Int) (by rfl) HW1.out HO.out HLN.out (by rfl) rfl ?_))
                intro g' cap1 w7 hO7 hG7 _
                have HO7 := hid hO7
                have HL7 := hid (show Later w w7 from later_grown HL.out hG7 (fun b' hb' => by obtain ⟨us, _, hus, _⟩ := HO.out.partsH; exact (hus.lt b' hb').1))
                clear hO7 hG7
                rw [HLEN.out] at HO7 ⊢
                have HO8 := hid (show OwnRows w.heap.size w7.heap.size w7 (.slice (some ⟨g', 0, none⟩) (M.length + 1) cap1) ((M ++ [((x : Int), (y : Int))]).map jpL) by have h := HO7.out; rw [← HMM.out] at h; simpa [jpL] using h)
                go_wp2_with fail
                go_roundw
                case rel => exact ⟨y + 1, hyl, by go_num, by rw [HE.out]; simpa using HO8.out, HL7.out⟩
                case measure => simp [intOf]; omega
              · have HG := hid hG
                have HD := hid (fun w0 => juDown_as x y k w0 ⟨by omega, by omega⟩ HN.out _ hd)
                have HE := hid (show (gridJ x ++ rowJ x (y + 1)).filter (upP k c true) = M by
                  rw [HROW.out, HFIL.out]
                  have : upP k c true ((x : Int), (y : Int)) = false := by simp [upP, leastP, hd]
                  rw [this]; simp)
                clear hG hd hlen
                go_wp2_with (first
                  | (go_at_call 88; refine (juGood_as _ _ _ _ _ _ HW.out HG.out).mono ?_; rintro e w2 ⟨rfl, rfl⟩)
                  | (go_at_call 136; refine (HD.out _).mono ?_; rintro e w2 ⟨rfl, rfl⟩; simp only [Option.getD_some, Option.isSome_some]))
                go_roundw
                case rel => exact ⟨y + 1, hyl, by go_num, by rw [HE.out]; simpa using HO.out, HL.out⟩
                case measure => simp [intOf]; omega
        · obtain rfl : y = x + 1 := by omega
          have hyI : ¬ ((x + 1 : Nat) : Int) ≤ (x : Int) := by omega
          go_wp2_with fail
          go_roundw
          case rel => exact ⟨x + 1, hlt, by go_num, by rw [gridJ_succ, HM.out]; simpa using HO.out, HL.out⟩
          case measure => simp [intOf]; omega
    · obtain rfl : x = N + 1 := by omega
      have hlI : ¬ ((N + 1 : Nat) : Int) ≤ (N : Int) := by omega
      go_wp2_with fail
      go_ret
      exact ⟨_, rfl, by simpa using HO.out, HL.out⟩
theorem upP_all (k c : Int) : upP k c false = goodP k c := by funext p; simp [upP]
theorem upP_least (k c : Int) : upP k c true = fun p => goodP k c p && leastP k p := by funext p; simp [upP]
set_option maxRecDepth 20000 in
set_option maxHeartbeats 2000000 in
theorem specPairsUpTo_any (k c m : Int) (w : World) :
    Calls Try.prog 10 #[.int .i64 k, .int .i64 c, .int .i64 m] w fun e w' => RowsAns w (puAns k c m) e w' := by
  cases hP : puOk k c m
  · have HP := hid hP
    have HA := hid (show puAns k c m = none from if_neg (by rw [hP]; simp))
    rw [HA.out]
    clear hP HA
    go_enter Try.func10, Try.ntmps10
    go_wp2_with (go_at_call 72; refine (juTask_as _ _ _ _ _ HP.out).mono ?_; rintro e w2 ⟨rfl, rfl⟩)
    go_ret2
    exact ⟨_, rfl, OwnRows.noneH _ _ _, Later.refl _⟩
  · have HP := hid hP
    obtain ⟨hW, hm⟩ := puOk_iff.1 hP
    have HA := hid (show puAns k c m = toldJ ((gridJ (m.toNat + 1)).filter (upP k c false)) from (by unfold puAns; rw [if_pos hP, upP_all]))
    obtain ⟨n, rfl⟩ : ∃ n : Nat, m = (n : Int) := ⟨m.toNat, by omega⟩
    rw [Int.toNat_natCast] at HA
    have HS := hid (fun w0 => juUpTo_any k c n false w0 hW (by omega))
    obtain ⟨R, hR⟩ : ∃ R, (gridJ (n + 1)).filter (upP k c false) = R := ⟨_, rfl⟩
    rw [hR] at HA HS
    obtain ⟨T, hT⟩ : ∃ T, toldJ R = T := ⟨_, rfl⟩
    have HT := hid hT
    rw [HA.out, hT]
    clear hP hW hm hR HA hT
    go_enter Try.func10, Try.ntmps10
    go_wp2_with (go_at_call 72; refine (juTask_as _ _ _ _ _ HP.out).mono ?_; rintro e w2 ⟨rfl, rfl⟩)
    refine (HS.out _).mono ?_
    rintro e w3 ⟨v3, rfl, ho, hL3⟩
    obtain ⟨o1, o2, rfl, _⟩ := ho.shape
    rw [List.length_map] at ho ⊢
    have HO := hid ho
    have HL := hid hL3
    clear ho hL3
    by_cases hl : R.length ≤ 1000
    · have HT2 := hid (show T = some (R.map jpL) by rw [← HT.out]; unfold toldJ; rw [if_pos hl])
      have hlI : (R.length : Int) ≤ 1000 := by omega
      go_wp2_with fail
      go_ret2
      rw [HT2.out]
      exact ⟨_, rfl, HO.out, HL.out⟩
    · have HT2 := hid (show T = none by rw [← HT.out]; unfold toldJ; rw [if_neg hl])
      have hlI : ¬ (R.length : Int) ≤ 1000 := by omega
      go_wp2_with fail
      go_ret2
      rw [HT2.out]
      exact ⟨_, rfl, OwnRows.noneH _ _ _, HL.out⟩
set_option maxRecDepth 20000 in
set_option maxHeartbeats 2000000 in
theorem specClassesUpTo_any (k c m : Int) (w : World) :
    Calls Try.prog 12 #[.int .i64 k, .int .i64 c, .int .i64 m] w fun e w' => RowsAns w (clAns k c m) e w' := by
  cases hP : puOk k c m
  · have HP := hid hP
    have HA := hid (show clAns k c m = none from if_neg (by rw [hP]; simp))
    rw [HA.out]
    clear hP HA
    go_enter Try.func12, Try.ntmps12
    go_wp2_with (go_at_call 72; refine (juTask_as _ _ _ _ _ HP.out).mono ?_; rintro e w2 ⟨rfl, rfl⟩)
    go_ret2
    exact ⟨_, rfl, OwnRows.noneH _ _ _, Later.refl _⟩
  · have HP := hid hP
    obtain ⟨hW, hm⟩ := puOk_iff.1 hP
    have HA := hid (show clAns k c m = toldJ ((gridJ (m.toNat + 1)).filter (upP k c true)) from (by unfold clAns; rw [if_pos hP, upP_least]))
    obtain ⟨n, rfl⟩ : ∃ n : Nat, m = (n : Int) := ⟨m.toNat, by omega⟩
    rw [Int.toNat_natCast] at HA
    have HS := hid (fun w0 => juUpTo_any k c n true w0 hW (by omega))
    obtain ⟨R, hR⟩ : ∃ R, (gridJ (n + 1)).filter (upP k c true) = R := ⟨_, rfl⟩
    rw [hR] at HA HS
    obtain ⟨T, hT⟩ : ∃ T, toldJ R = T := ⟨_, rfl⟩
    have HT := hid hT
    rw [HA.out, hT]
    clear hP hW hm hR HA hT
    go_enter Try.func12, Try.ntmps12
    go_wp2_with (go_at_call 72; refine (juTask_as _ _ _ _ _ HP.out).mono ?_; rintro e w2 ⟨rfl, rfl⟩)
    refine (HS.out _).mono ?_
    rintro e w3 ⟨v3, rfl, ho, hL3⟩
    obtain ⟨o1, o2, rfl, _⟩ := ho.shape
    rw [List.length_map] at ho ⊢
    have HO := hid ho
    have HL := hid hL3
    clear ho hL3
    by_cases hl : R.length ≤ 1000
    · have HT2 := hid (show T = some (R.map jpL) by rw [← HT.out]; unfold toldJ; rw [if_pos hl])
      have hlI : (R.length : Int) ≤ 1000 := by omega
      go_wp2_with fail
      go_ret2
      rw [HT2.out]
      exact ⟨_, rfl, HO.out, HL.out⟩
    · have HT2 := hid (show T = none by rw [← HT.out]; unfold toldJ; rw [if_neg hl])
      have hlI : ¬ (R.length : Int) ≤ 1000 := by omega
      go_wp2_with fail
      go_ret2
      rw [HT2.out]
      exact ⟨_, rfl, OwnRows.noneH _ _ _, HL.out⟩
end Go.Proofs.Ytdahhcigphhfdaa
