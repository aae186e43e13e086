/- Jumping roots in the model: IsJump, KOfPair, JumpDown, JumpUp, SquareQuotient. -/
import Derived.Test.YtdahhcigphhfdaaJuM
import Derived.Test.YtdahhcigphhfdaaAns5
namespace Go.Proofs.Ytdahhcigphhfdaa
open Go.RowKit

theorem juB_noW {x y k c : Int} (h : juW k c = false) : juB x y k c = false := by unfold juB; rw [h]; rfl
theorem juB_noG {x y k c : Int} (h : juGd x y k c = false) : juB x y k c = false := by unfold juB; rw [h, Bool.and_false]
theorem juB_mk {x y k c : Int} (hW : juW k c = true) (h : juGd x y k c = true) : juB x y k c = true := by unfold juB; rw [hW, h]; rfl
theorem juGd_N {x y k c : Int} (h : juGd x y k c = true) : jpN (x, y) := by
  unfold juGd at h; simp only [Bool.and_eq_true] at h; exact juN_iff.1 h.1
theorem kOf_good {x y c k : Int} (h1 : 1 ≤ y) (hN : juN x y = true) (hW : juW k c = true) (hq : (x * x + y * y + c).tdiv (x * y) = k) : kOf x y c = if juGd x y k c = true then some k else none := by
  obtain ⟨k1, k2, e1, e2⟩ := juW_iff.1 hW
  have hd := dvd_tdiv (x * x + y * y + c) (x * y)
  rw [hq] at hd
  rw [kOf_eq h1 hN ⟨e1, e2⟩, hq]
  unfold juGd juS
  rw [hN, Bool.true_and]
  by_cases hz : (x * x + y * y + c).tmod (x * y) = 0
  · rw [if_pos ⟨hz, k1, k2⟩, if_pos (decide_eq_true (by rw [Int.mul_assoc]; exact (hd.1 hz).symm))]
  · rw [if_neg (fun h => hz h.1), if_neg (by
      intro h
      have := of_decide_eq_true h
      exact hz (hd.2 (by rw [← Int.mul_assoc]; exact this.symm)))]
set_option maxRecDepth 20000 in
set_option maxHeartbeats 2000000 in
theorem specKOfPair_any (x y c : Int) (w : World) :
    Calls Try.prog 20 #[.int .i64 x, .int .i64 y, .int .i64 c] w fun e w' => e = .returned (.tuple #[.int .i64 ((kOf x y c).getD 0), .bool (kOf x y c).isSome]) ∧ w = w' := by
  by_cases c1 : 1 ≤ x ∧ x ≤ 1000000
  · have hw1 := within_yes c1.1 c1.2
    by_cases c2 : 1 ≤ y ∧ y ≤ x
    · have hw2 := within_yes c2.1 c2.2
      by_cases c3 : -1000 ≤ c ∧ c ≤ 1000
      · have hw3 := within_yes c3.1 c3.2
        obtain ⟨x1, x2⟩ := c1
        obtain ⟨y1, y2⟩ := c2
        obtain ⟨e1, e2⟩ := c3
        obtain ⟨q1, q2⟩ := sqBd (x := x) ⟨by omega, x2⟩
        obtain ⟨q3, q4⟩ := sqBd (x := y) ⟨by omega, by omega⟩
        obtain ⟨q5, q6⟩ := mulBd (x := x) (y := y) (a := 1000000) (b := 1000000) ⟨by omega, x2⟩ ⟨by omega, by omega⟩ (by omega)
        have hp : 0 < x * y := Int.mul_pos (by omega) (by omega)
        have hnz : ¬ x * y = 0 := by omega
        have hN : juN x y = true := juN_iff.2 ⟨by omega, y2, x2⟩
        obtain ⟨q, hq⟩ : ∃ q, (x * x + y * y + c).tdiv (x * y) = q := ⟨_, rfl⟩
        have hsb : -3000000000000 ≤ x * x + y * y + c ∧ x * x + y * y + c ≤ 3000000000000 := by omega
        have hqb := tdivBd (d := x * y) hsb
        rw [hq] at hqb
        have hqw := wrapEq (q := q) (by omega)
        cases hW : juW q c
        · have HW := hid hW
          have HA := hid (show kOf x y c = none by
            rw [kOf_eq y1 hN ⟨e1, e2⟩, hq]
            refine if_neg fun h => ?_
            rw [juW_iff.2 ⟨h.2.1, h.2.2, e1, e2⟩] at hW
            cases hW)
          clear hW hN
          go_enter Try.func20, Try.ntmps20
          go_wp2_with (first | (go_at_call 87; refine (juGiven_as _ _ _ _ HW.out).mono ?_; rintro e w2 ⟨rfl, rfl⟩) | (go_at_call 86; refine (l1In_any _ _ _ _).mono ?_; rintro e w2 ⟨rfl, rfl⟩))
          go_ret2
          rw [HA.out]
          exact ⟨rfl, rfl⟩
        · have HW := hid hW
          have HD := hid (kOf_good y1 hN hW hq)
          cases hG : juGd x y q c
          · have HG := hid hG
            have HA := hid (show kOf x y c = none by rw [HD.out, if_neg (by rw [hG]; simp)])
            clear hW hN hG HD
            go_enter Try.func20, Try.ntmps20
            go_wp2_with (first | (go_at_call 87; refine (juGiven_as _ _ _ _ HW.out).mono ?_; rintro e w2 ⟨rfl, rfl⟩) | (go_at_call 88; refine (juGood_as _ _ _ _ _ _ HW.out HG.out).mono ?_; rintro e w2 ⟨rfl, rfl⟩) | (go_at_call 86; refine (l1In_any _ _ _ _).mono ?_; rintro e w2 ⟨rfl, rfl⟩))
            go_ret2
            rw [HA.out]
            exact ⟨rfl, rfl⟩
          · have HG := hid hG
            have HA := hid (show kOf x y c = some q by rw [HD.out, if_pos hG])
            clear hW hN hG HD
            go_enter Try.func20, Try.ntmps20
            go_wp2_with (first | (go_at_call 87; refine (juGiven_as _ _ _ _ HW.out).mono ?_; rintro e w2 ⟨rfl, rfl⟩) | (go_at_call 88; refine (juGood_as _ _ _ _ _ _ HW.out HG.out).mono ?_; rintro e w2 ⟨rfl, rfl⟩) | (go_at_call 86; refine (l1In_any _ _ _ _).mono ?_; rintro e w2 ⟨rfl, rfl⟩))
            go_ret2
            rw [HA.out]
            exact ⟨rfl, rfl⟩
      · have hw3 := within_no c3
        have HA := hid (show kOf x y c = none from if_neg (by omega))
        clear c1 c2 c3
        go_enter Try.func20, Try.ntmps20
        go_wp2_with (go_at_call 86; refine (l1In_any _ _ _ _).mono ?_; rintro e w2 ⟨rfl, rfl⟩)
        go_ret2
        rw [HA.out]
        exact ⟨rfl, rfl⟩
    · have hw2 := within_no c2
      have HA := hid (show kOf x y c = none from if_neg (fun h => c2 ⟨h.1, (juN_iff.1 h.2.1).2.1⟩))
      clear c1 c2
      go_enter Try.func20, Try.ntmps20
      go_wp2_with (go_at_call 86; refine (l1In_any _ _ _ _).mono ?_; rintro e w2 ⟨rfl, rfl⟩)
      go_ret2
      rw [HA.out]
      exact ⟨rfl, rfl⟩
  · have hw1 := within_no c1
    have HA := hid (show kOf x y c = none from if_neg (fun h => c1 ⟨by have := h.1; have := (juN_iff.1 h.2.1).2.1; omega, (juN_iff.1 h.2.1).2.2⟩))
    clear c1
    go_enter Try.func20, Try.ntmps20
    go_wp2_with (go_at_call 86; refine (l1In_any _ _ _ _).mono ?_; rintro e w2 ⟨rfl, rfl⟩)
    go_ret2
    rw [HA.out]
    exact ⟨rfl, rfl⟩
end Go.Proofs.Ytdahhcigphhfdaa
