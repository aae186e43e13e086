/- Jumping roots in the model: IsJump, KOfPair, JumpDown, JumpUp, SquareQuotient. -/
import Derived.Test.YthejafejmbpepaaJuM
import Derived.Test.YthejafejmbpepaaAns5
namespace Go.Proofs.Ythejafejmbpepaa
open Go.RowKit

theorem juB_noW {x y k c : Int} (h : juW k c = false) : juB x y k c = false := by unfold juB; rw [h]; rfl
theorem juB_noG {x y k c : Int} (h : juGd x y k c = false) : juB x y k c = false := by unfold juB; rw [h, Bool.and_false]
theorem juB_mk {x y k c : Int} (hW : juW k c = true) (h : juGd x y k c = true) : juB x y k c = true := by unfold juB; rw [hW, h]; rfl
theorem juGd_N {x y k c : Int} (h : juGd x y k c = true) : jpN (x, y) := by
  unfold juGd at h; simp only [Bool.and_eq_true] at h; exact juN_iff.1 h.1
set_option maxHeartbeats 1000000 in
theorem specJumpDown_any (x y k c : Int) (w : World) :
    Calls Try.prog 9 #[.int .i64 x, .int .i64 y, .int .i64 k, .int .i64 c] w fun e w' => PairAns w (dnAns x y k c) e w' := by
  cases hW : juW k c
  · have HW := hid hW
    have HA := hid (show dnAns x y k c = none from if_neg (by rw [juB_noW hW]; simp))
    clear hW
    go_enter Try.func9, Try.ntmps9
    go_wp2_with (go_at_call 45; refine (juGiven_as _ _ _ _ HW.out).mono ?_; rintro e w2 ⟨rfl, rfl⟩)
    go_ret3
    rw [HA.out]
    exact ⟨rfl, Later.refl _⟩
  · cases hG : juGd x y k c
    · have HW := hid hW
      have HG := hid hG
      have HA := hid (show dnAns x y k c = none from if_neg (by rw [juB_noG hG]; simp))
      clear hW hG
      go_enter Try.func9, Try.ntmps9
      go_wp2_with (first | (go_at_call 45; refine (juGiven_as _ _ _ _ HW.out).mono ?_; rintro e w2 ⟨rfl, rfl⟩) | (go_at_call 46; refine (juGood_as _ _ _ _ _ _ HW.out HG.out).mono ?_; rintro e w2 ⟨rfl, rfl⟩))
      go_ret3
      rw [HA.out]
      exact ⟨rfl, Later.refl _⟩
    · have HW := hid hW
      have HG := hid hG
      have HN := hid (juGd_N hG)
      obtain ⟨k1, k2, e1, e2⟩ := juW_iff.1 hW
      have HA := hid (show dnAns x y k c = dnJ k (x, y) from if_pos (juB_mk hW hG))
      obtain ⟨o, ho⟩ : ∃ o, dnJ k (x, y) = o := ⟨_, rfl⟩
      have HD := hid (fun w0 => juDown_any x y k w0 ⟨by omega, by omega⟩ HN.out)
      rw [ho] at HA HD
      have HD2 := hid (fun w0 => show Calls Try.prog 47 #[.int .i64 x, .int .i64 y, .int .i64 k] w0 fun e w' => e = .returned (.tuple #[.int .i64 (o.getD (0, 0)).1, .int .i64 (o.getD (0, 0)).2, .bool o.isSome]) ∧ w0 = w' from HD.out w0)
      rw [HA.out]
      clear hW hG ho HD
      go_enter Try.func9, Try.ntmps9
      go_wp2_with (first | (go_at_call 45; refine (juGiven_as _ _ _ _ HW.out).mono ?_; rintro e w2 ⟨rfl, rfl⟩) | (go_at_call 46; refine (juGood_as _ _ _ _ _ _ HW.out HG.out).mono ?_; rintro e w2 ⟨rfl, rfl⟩) | (go_at_call 47; refine (HD2.out _).mono ?_; rintro e w2 ⟨rfl, rfl⟩))
      go_ret3
      exact ⟨rfl, Later.refl _⟩
set_option maxHeartbeats 1000000 in
theorem specJumpUp_any (x y k c : Int) (w : World) :
    Calls Try.prog 13 #[.int .i64 x, .int .i64 y, .int .i64 k, .int .i64 c] w fun e w' => PairAns w (upAns8 x y k c) e w' := by
  cases hW : juW k c
  · have HW := hid hW
    have HA := hid (show upAns8 x y k c = none from if_neg (by rw [juB_noW hW]; simp))
    clear hW
    go_enter Try.func13, Try.ntmps13
    go_wp2_with (go_at_call 45; refine (juGiven_as _ _ _ _ HW.out).mono ?_; rintro e w2 ⟨rfl, rfl⟩)
    go_ret3
    rw [HA.out]
    exact ⟨rfl, Later.refl _⟩
  · cases hG : juGd x y k c
    · have HW := hid hW
      have HG := hid hG
      have HA := hid (show upAns8 x y k c = none from if_neg (by rw [juB_noG hG]; simp))
      clear hW hG
      go_enter Try.func13, Try.ntmps13
      go_wp2_with (first | (go_at_call 45; refine (juGiven_as _ _ _ _ HW.out).mono ?_; rintro e w2 ⟨rfl, rfl⟩) | (go_at_call 46; refine (juGood_as _ _ _ _ _ _ HW.out HG.out).mono ?_; rintro e w2 ⟨rfl, rfl⟩))
      go_ret3
      rw [HA.out]
      exact ⟨rfl, Later.refl _⟩
    · have HW := hid hW
      have HG := hid hG
      have HN := hid (juGd_N hG)
      obtain ⟨k1, k2, e1, e2⟩ := juW_iff.1 hW
      have HA := hid (show upAns8 x y k c = if x ≤ k * x - y ∧ k * x - y ≤ 1000000 then some (k * x - y, x) else none from if_pos (juB_mk hW hG))
      obtain ⟨y1, y2, x2⟩ := HN.out
      simp only at y1 y2 x2
      obtain ⟨q5, q6⟩ := mulBd (x := k) (y := x) (a := 1000) (b := 1000000) ⟨by omega, k2⟩ ⟨by omega, x2⟩ (by omega)
      clear hW hG
      by_cases hr : x ≤ k * x - y ∧ k * x - y ≤ 1000000
      · have hw1 := within_yes hr.1 hr.2
        rw [HA.out, if_pos hr]
        clear hr HA
        go_enter Try.func13, Try.ntmps13
        go_wp2_with (first | (go_at_call 45; refine (juGiven_as _ _ _ _ HW.out).mono ?_; rintro e w2 ⟨rfl, rfl⟩) | (go_at_call 46; refine (juGood_as _ _ _ _ _ _ HW.out HG.out).mono ?_; rintro e w2 ⟨rfl, rfl⟩) | (go_at_call 50; refine (l1In_any _ _ _ _).mono ?_; rintro e w2 ⟨rfl, rfl⟩))
        go_ret3
        exact ⟨rfl, Later.refl _⟩
      · have hw1 := within_no hr
        rw [HA.out, if_neg hr]
        clear hr HA
        go_enter Try.func13, Try.ntmps13
        go_wp2_with (first | (go_at_call 45; refine (juGiven_as _ _ _ _ HW.out).mono ?_; rintro e w2 ⟨rfl, rfl⟩) | (go_at_call 46; refine (juGood_as _ _ _ _ _ _ HW.out HG.out).mono ?_; rintro e w2 ⟨rfl, rfl⟩) | (go_at_call 50; refine (l1In_any _ _ _ _).mono ?_; rintro e w2 ⟨rfl, rfl⟩))
        go_ret3
        exact ⟨rfl, Later.refl _⟩
theorem kOf_good {x y c k : Int} (h1 : 1 ≤ y) (hN : juN x y = true) (hW : juW k c = true) (hq : (x * x + y * y + c).tdiv (x * y) = k) : kOf x y c = if juGd x y k c = true then some k else none := by
  obtain ⟨k1, k2, e1, e2⟩ := juW_iff.1 hW
  have hd := dvd_tdiv (x * x + y * y + c) (x * y)
  rw [hq] at hd
  rw [kOf_eq h1 hN ⟨e1, e2⟩, hq]
  unfold juGd juS
  rw [hN, Bool.true_and]
  by_cases hz : (x * x + y * y + c).tmod (x * y) = 0
  · rw [if_pos ⟨hz, k1, k2⟩, if_pos (decide_eq_true (by rw [Int.mul_assoc]; exact (hd.1 hz).symm))]
  · rw [if_neg (fun h => hz h.1), if_neg (by
      intro h
      have := of_decide_eq_true h
      exact hz (hd.2 (by rw [← Int.mul_assoc]; exact this.symm)))]
set_option maxRecDepth 20000 in
set_option maxHeartbeats 2000000 in
theorem specKOfPair_any (x y c : Int) (w : World) :
    Calls Try.prog 39 #[.int .i64 x, .int .i64 y, .int .i64 c] w fun e w' => e = .returned (.tuple #[.int .i64 ((kOf x y c).getD 0), .bool (kOf x y c).isSome]) ∧ w = w' := by
  by_cases c1 : 1 ≤ x ∧ x ≤ 1000000
  · have hw1 := within_yes c1.1 c1.2
    by_cases c2 : 1 ≤ y ∧ y ≤ x
    · have hw2 := within_yes c2.1 c2.2
      by_cases c3 : -1000 ≤ c ∧ c ≤ 1000
      · have hw3 := within_yes c3.1 c3.2
        obtain ⟨x1, x2⟩ := c1
        obtain ⟨y1, y2⟩ := c2
        obtain ⟨e1, e2⟩ := c3
        obtain ⟨q1, q2⟩ := sqBd (x := x) ⟨by omega, x2⟩
        obtain ⟨q3, q4⟩ := sqBd (x := y) ⟨by omega, by omega⟩
        obtain ⟨q5, q6⟩ := mulBd (x := x) (y := y) (a := 1000000) (b := 1000000) ⟨by omega, x2⟩ ⟨by omega, by omega⟩ (by omega)
        have hp : 0 < x * y := Int.mul_pos (by omega) (by omega)
        have hnz : ¬ x * y = 0 := by omega
        have hN : juN x y = true := juN_iff.2 ⟨by omega, y2, x2⟩
        obtain ⟨q, hq⟩ : ∃ q, (x * x + y * y + c).tdiv (x * y) = q := ⟨_, rfl⟩
        have hsb : -3000000000000 ≤ x * x + y * y + c ∧ x * x + y * y + c ≤ 3000000000000 := by omega
        have hqb := tdivBd (d := x * y) hsb
        rw [hq] at hqb
        have hqw := wrapEq (q := q) (by omega)
        cases hW : juW q c
        · have HW := hid hW
          have HA := hid (show kOf x y c = none by
            rw [kOf_eq y1 hN ⟨e1, e2⟩, hq]
            refine if_neg fun h => ?_
            rw [juW_iff.2 ⟨h.2.1, h.2.2, e1, e2⟩] at hW
            cases hW)
          clear hW hN
          go_enter Try.func39, Try.ntmps39
          go_wp2_with (first | (go_at_call 45; refine (juGiven_as _ _ _ _ HW.out).mono ?_; rintro e w2 ⟨rfl, rfl⟩) | (go_at_call 50; refine (l1In_any _ _ _ _).mono ?_; rintro e w2 ⟨rfl, rfl⟩))
          go_ret2
          rw [HA.out]
          exact ⟨rfl, rfl⟩
        · have HW := hid hW
          have HD := hid (kOf_good y1 hN hW hq)
          cases hG : juGd x y q c
          · have HG := hid hG
            have HA := hid (show kOf x y c = none by rw [HD.out, if_neg (by rw [hG]; simp)])
            clear hW hN hG HD
            go_enter Try.func39, Try.ntmps39
            go_wp2_with (first | (go_at_call 45; refine (juGiven_as _ _ _ _ HW.out).mono ?_; rintro e w2 ⟨rfl, rfl⟩) | (go_at_call 46; refine (juGood_as _ _ _ _ _ _ HW.out HG.out).mono ?_; rintro e w2 ⟨rfl, rfl⟩) | (go_at_call 50; refine (l1In_any _ _ _ _).mono ?_; rintro e w2 ⟨rfl, rfl⟩))
            go_ret2
            rw [HA.out]
            exact ⟨rfl, rfl⟩
          · have HG := hid hG
            have HA := hid (show kOf x y c = some q by rw [HD.out, if_pos hG])
            clear hW hN hG HD
            go_enter Try.func39, Try.ntmps39
            go_wp2_with (first | (go_at_call 45; refine (juGiven_as _ _ _ _ HW.out).mono ?_; rintro e w2 ⟨rfl, rfl⟩) | (go_at_call 46; refine (juGood_as _ _ _ _ _ _ HW.out HG.out).mono ?_; rintro e w2 ⟨rfl, rfl⟩) | (go_at_call 50; refine (l1In_any _ _ _ _).mono ?_; rintro e w2 ⟨rfl, rfl⟩))
            go_ret2
            rw [HA.out]
            exact ⟨rfl, rfl⟩
      · have hw3 := within_no c3
        have HA := hid (show kOf x y c = none from if_neg (by omega))
        clear c1 c2 c3
        go_enter Try.func39, Try.ntmps39
        go_wp2_with (go_at_call 50; refine (l1In_any _ _ _ _).mono ?_; rintro e w2 ⟨rfl, rfl⟩)
        go_ret2
        rw [HA.out]
        exact ⟨rfl, rfl⟩
    · have hw2 := within_no c2
      have HA := hid (show kOf x y c = none from if_neg (fun h => c2 ⟨h.1, (juN_iff.1 h.2.1).2.1⟩))
      clear c1 c2
      go_enter Try.func39, Try.ntmps39
      go_wp2_with (go_at_call 50; refine (l1In_any _ _ _ _).mono ?_; rintro e w2 ⟨rfl, rfl⟩)
      go_ret2
      rw [HA.out]
      exact ⟨rfl, rfl⟩
  · have hw1 := within_no c1
    have HA := hid (show kOf x y c = none from if_neg (fun h => c1 ⟨by have := h.1; have := (juN_iff.1 h.2.1).2.1; omega, (juN_iff.1 h.2.1).2.2⟩))
    clear c1
    go_enter Try.func39, Try.ntmps39
    go_wp2_with (go_at_call 50; refine (l1In_any _ _ _ _).mono ?_; rintro e w2 ⟨rfl, rfl⟩)
    go_ret2
    rw [HA.out]
    exact ⟨rfl, rfl⟩
end Go.Proofs.Ythejafejmbpepaa
