/- Ways up in the model: AscendPair. -/
import Derived.Test.YthejafejmbpepaaJuR
namespace Go.Proofs.Ythejafejmbpepaa
open Go.RowKit

def ascOk (x y k c s : Int) : Bool := juB x y k c && decide (0 ≤ s ∧ s ≤ 40)
theorem ascAns_no {x y k c s : Int} (h : ascOk x y k c s = false) : ascAns x y k c s = none := by
  refine if_neg fun hh => ?_
  unfold ascOk at h
  rw [hh.1, decide_eq_true ⟨hh.2.1, hh.2.2.1⟩] at h
  cases h
theorem ascAns_yes {x y k c s : Int} (hB : juB x y k c = true) (hs : 0 ≤ s ∧ s ≤ 40) :
    ascAns x y k c s = if s < (upRun k (s.toNat + 1) (x, y)).length then some ((upRun k (s.toNat + 1) (x, y)).map jpL) else none := by
  unfold ascAns
  simp only [hB, hs.1, hs.2, true_and]
set_option maxRecDepth 20000 in
set_option maxHeartbeats 4000000 in
theorem specAscendPair_any (x y k c s : Int) (w : World) :
    Calls Try.prog 28 #[.int .i64 x, .int .i64 y, .int .i64 k, .int .i64 c, .int .i64 s] w fun e w' => RowsAns w (ascAns x y k c s) e w' := by
  cases hW : juW k c
  · have HW := hid hW
    have HA := hid (show ascAns x y k c s = none from ascAns_no (by unfold ascOk; rw [juB_noW hW]; rfl))
    clear hW
    go_enter Try.func28, Try.ntmps28
    go_wp2_with (go_at_call 45; refine (juGiven_as _ _ _ _ HW.out).mono ?_; rintro e w2 ⟨rfl, rfl⟩)
    go_ret2
    rw [HA.out]
    exact ⟨_, rfl, OwnRows.noneH _ _ _, Later.refl _⟩
  · cases hG : juGd x y k c
    · have HW := hid hW
      have HG := hid hG
      have HA := hid (show ascAns x y k c s = none from ascAns_no (by unfold ascOk; rw [juB_noG hG]; rfl))
      clear hW hG
      go_enter Try.func28, Try.ntmps28
      go_wp2_with (first | (go_at_call 45; refine (juGiven_as _ _ _ _ HW.out).mono ?_; rintro e w2 ⟨rfl, rfl⟩) | (go_at_call 46; refine (juGood_as _ _ _ _ _ _ HW.out HG.out).mono ?_; rintro e w2 ⟨rfl, rfl⟩))
      go_ret2
      rw [HA.out]
      exact ⟨_, rfl, OwnRows.noneH _ _ _, Later.refl _⟩
    · by_cases hs : 0 ≤ s ∧ s ≤ 40
      · have hw1 := within_yes hs.1 hs.2
        have HW := hid hW
        have HG := hid hG
        have HN := hid (juGd_N hG)
        obtain ⟨k1, k2, e1, e2⟩ := juW_iff.1 hW
        have HA := hid (ascAns_yes (juB_mk hW hG) hs)
        obtain ⟨n, rfl⟩ : ∃ n : Nat, s = (n : Int) := ⟨s.toNat, by omega⟩
        rw [Int.toNat_natCast] at HA
        have hn : n ≤ 40 := by omega
        obtain ⟨R, hR⟩ : ∃ R, upRun k (n + 1) (x, y) = R := ⟨_, rfl⟩
        have HR := hid (show runJ (upJ k) (n + 1) (x, y) = R from hR)
        rw [hR] at HA
        obtain ⟨T, hT⟩ : ∃ T, (if (n : Int) < (R.length : Int) then some (R.map jpL) else none) = T := ⟨_, rfl⟩
        rw [HA.out, hT]
        have HTT := hid hT
        clear hT
        have HO : Hid (OwnRows w.heap.size ((w.alloc (.cells #[.int .i64 x, .int .i64 y] 3)).alloc (.cells #[.slice (some ⟨w.heap.size, 0, none⟩) 2 2] 34)).heap.size ((w.alloc (.cells #[.int .i64 x, .int .i64 y] 3)).alloc (.cells #[.slice (some ⟨w.heap.size, 0, none⟩) 2 2] 34)) (.slice (some ⟨w.heap.size + 1, 0, none⟩) 1 1) [[x, y]]) := hid (by
          have h := OwnRows.oneH (Later.alloc w _).size (lit2J w x y)
          simpa using h)
        have HL := hid ((Later.alloc w (.cells #[.int .i64 x, .int .i64 y] 3)).trans (Later.alloc _ (.cells #[.slice (some ⟨w.heap.size, 0, none⟩) 2 2] 34)))
        clear hW hG hR hs HA
        go_enter Try.func28, Try.ntmps28
        go_wp2_with (first | (go_at_call 45; refine (juGiven_as _ _ _ _ HW.out).mono ?_; rintro e w2 ⟨rfl, rfl⟩) | (go_at_call 46; refine (juGood_as _ _ _ _ _ _ HW.out HG.out).mono ?_; rintro e w2 ⟨rfl, rfl⟩) | (go_at_call 50; refine (l1In_any _ _ _ _).mono ?_; rintro e w2 ⟨rfl, rfl⟩))
        generalize (w.alloc (.cells #[.int .i64 x, .int .i64 y] 3)).alloc (.cells #[.slice (some ⟨w.heap.size, 0, none⟩) 2 2] 34) = w1 at HO HL ⊢
        clear hw1
        go_loopw [0, 1, 4, 12] (fun s0 s1 s4 o wr => ∃ (a b : Int) (j : Nat) (M : List Jp2), s0 = .int .i64 a ∧ s1 = .int .i64 b ∧ s4 = .int .i64 j ∧ jpN (a, b) ∧ OwnRows w.heap.size wr.heap.size wr o (M.map jpL ++ [[a, b]]) ∧ M ++ runJ (upJ k) (j + 1) (a, b) = R ∧ M.length + j = n ∧ Later w wr)
          (fun _ _ s4 _ _ => (intOf s4).toNat)
        case atStart => exact ⟨x, y, n, [], rfl, rfl, rfl, HN.out, HO.out, by simpa using HR.out, by simp, HL.out⟩
        case round =>
          clear HO HL
          obtain ⟨a, b, j, M, rfl, rfl, rfl, hN, hO, hR, hM, hL⟩ := hrel
          have HNr := hid hN
          have HO := hid hO
          have HL := hid hL
          have HRr := hid hR
          obtain ⟨o1, o2, rfl, _⟩ := hO.shape
          have hlen : (M.map jpL ++ [[a, b]]).length = M.length + 1 := by simp
          rw [hlen] at HO ⊢
          have HW1 := hid (show w.heap.size ≤ wr.heap.size from HL.out.size)
          clear hN hO hL hR hlen
          cases j with
          | zero =>
            have HE := hid (show M ++ [(a, b)] = R by
              have h := HRr.out
              cases hu : upJ k (a, b) with
              | none => rw [runJ_none hu] at h; exact h
              | some q => rw [runJ_some hu] at h; exact h)
            have HT := hid (show T = some (M.map jpL ++ [[a, b]]) by rw [← HTT.out, ← HE.out, if_pos (by simp; omega)]; simp [jpL])
            go_wp2_with fail
            go_ret2
            rw [HT.out]
            exact ⟨_, rfl, HO.out, HL.out⟩
          | succ j =>
            obtain ⟨y1, y2, x2⟩ := HNr.out
            simp only at y1 y2 x2
            obtain ⟨q5, q6⟩ := mulBd (x := k) (y := a) (a := 1000) (b := 1000000) ⟨by omega, k2⟩ ⟨by omega, x2⟩ (by omega)
            have hj0 : (0 : Int) < ((j + 1 : Nat) : Int) := by omega
            cases hu : upJ k (a, b) with
            | none =>
              have HE := hid (show M ++ [(a, b)] = R by have h := HRr.out; rw [runJ_none hu] at h; exact h)
              have HT := hid (show T = none by rw [← HTT.out, ← HE.out, if_neg (by simp; omega)])
              have hw1 : within a 1000000 (k * a - b) = false := within_no (fun h => by unfold upJ at hu; rw [if_pos h] at hu; cases hu)
              clear hu
              go_wp2_with (go_at_call 50; refine (l1In_any _ _ _ _).mono ?_; rintro e w2 ⟨rfl, rfl⟩)
              go_ret2
              rw [HT.out]
              exact ⟨_, rfl, OwnRows.noneH _ _ _, HL.out⟩
            | some q =>
              have hq : (a ≤ k * a - b ∧ k * a - b ≤ 1000000) ∧ q = (k * a - b, a) := by
                unfold upJ at hu
                split at hu
                · rename_i hh; injection hu with hu; exact ⟨hh, hu.symm⟩
                · cases hu
              obtain ⟨hq1, rfl⟩ := hq
              have HG := hid (upJ_good HNr.out hu)
              have HE := hid (show M ++ (a, b) :: runJ (upJ k) (j + 1) (k * a - b, a) = R by have h := HRr.out; rw [runJ_some hu] at h; exact h)
              have hw1 : within a 1000000 (k * a - b) = true := within_yes hq1.1 hq1.2
              have hl2 : (M.map jpL ++ [[a, b]]).length = M.length + 1 := by simp
              have HLN := hid (show (M.map jpL ++ [[a, b]]).length ≤ 1000000 by rw [hl2]; omega)
              obtain ⟨MM, hMM⟩ : ∃ MM, M.map jpL ++ [[a, b]] = MM := ⟨_, rfl⟩
              have HMM := hid hMM
              have HL2 := hid hl2
              rw [hMM] at HO HLN HL2
              clear hMM hl2 hu
              go_wp2_with (first
                | (go_at_call 50; refine (l1In_any _ _ _ _).mono ?_; rintro e w2 ⟨rfl, rfl⟩)
                | (at_builtin; refine wpList_push2 (by rfl) _ _ (by rfl) w.heap.size wr _ (.slice o1 (M.length + 1) o2) MM (k * a - b) a (by rfl) HW1.out HO.out HLN.out (by rfl) rfl ?_))
              intro g' cap1 w7 hO7 hG7 _
              have HO7 := hid hO7
              have HL7 := hid (show Later w w7 from later_grown HL.out hG7 (fun b' hb' => by obtain ⟨us, _, hus, _⟩ := HO.out.partsH; exact (hus.lt b' hb').1))
              clear hO7 hG7
              rw [HL2.out] at HO7 ⊢
              go_wp2_with fail
              go_roundw
              case rel => exact ⟨k * a - b, a, j, M ++ [(a, b)], rfl, rfl, by go_num, HG.out, by have h := HO7.out; rw [← HMM.out] at h; simpa [jpL] using h, by rw [List.append_assoc, List.singleton_append]; exact HE.out, by simp; omega, HL7.out⟩
              case measure => simp [intOf]
      · have hw1 := within_no hs
        have HW := hid hW
        have HG := hid hG
        have HA := hid (show ascAns x y k c s = none from ascAns_no (by unfold ascOk; rw [decide_eq_false hs, Bool.and_false]))
        clear hW hG hs
        go_enter Try.func28, Try.ntmps28
        go_wp2_with (first | (go_at_call 45; refine (juGiven_as _ _ _ _ HW.out).mono ?_; rintro e w2 ⟨rfl, rfl⟩) | (go_at_call 46; refine (juGood_as _ _ _ _ _ _ HW.out HG.out).mono ?_; rintro e w2 ⟨rfl, rfl⟩) | (go_at_call 50; refine (l1In_any _ _ _ _).mono ?_; rintro e w2 ⟨rfl, rfl⟩))
        go_ret2
        rw [HA.out]
        exact ⟨_, rfl, OwnRows.noneH _ _ _, Later.refl _⟩
end Go.Proofs.Ythejafejmbpepaa
