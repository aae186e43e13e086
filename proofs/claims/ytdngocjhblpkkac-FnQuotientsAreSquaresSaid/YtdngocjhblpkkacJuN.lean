/- Jumping roots in the model: IsJump, KOfPair, JumpDown, JumpUp, SquareQuotient. -/
import Derived.Test.YtdngocjhblpkkacJuM
import Derived.Test.YtdngocjhblpkkacAns5
namespace Go.Proofs.Ytdngocjhblpkkac
open Go.RowKit

theorem juB_noW {x y k c : Int} (h : juW k c = false) : juB x y k c = false := by unfold juB; rw [h]; rfl
theorem juB_noG {x y k c : Int} (h : juGd x y k c = false) : juB x y k c = false := by unfold juB; rw [h, Bool.and_false]
theorem juB_mk {x y k c : Int} (hW : juW k c = true) (h : juGd x y k c = true) : juB x y k c = true := by unfold juB; rw [hW, h]; rfl
theorem juGd_N {x y k c : Int} (h : juGd x y k c = true) : jpN (x, y) := by
  unfold juGd at h; simp only [Bool.and_eq_true] at h; exact juN_iff.1 h.1
theorem kOf_good {x y c k : Int} (h1 : 1 ≤ y) (hN : juN x y = true) (hW : juW k c = true) (hq : (x * x + y * y + c).tdiv (x * y) = k) : kOf x y c = if juGd x y k c = true then some k else none := by
  obtain ⟨k1, k2, e1, e2⟩ := juW_iff.1 hW
  have hd := dvd_tdiv (x * x + y * y + c) (x * y)
  rw [hq] at hd
  rw [kOf_eq h1 hN ⟨e1, e2⟩, hq]
  unfold juGd juS
  rw [hN, Bool.true_and]
  by_cases hz : (x * x + y * y + c).tmod (x * y) = 0
  · rw [if_pos ⟨hz, k1, k2⟩, if_pos (decide_eq_true (by rw [Int.mul_assoc]; exact (hd.1 hz).symm))]
  · rw [if_neg (fun h => hz h.1), if_neg (by
      intro h
      have := of_decide_eq_true h
      exact hz (hd.2 (by rw [← Int.mul_assoc]; exact this.symm)))]
set_option maxRecDepth 20000 in
set_option maxHeartbeats 2000000 in
theorem juQuotient_any (a b : Int) (w : World) :
    Calls Try.prog 16 #[.int .i64 a, .int .i64 b] w fun e w' => e = .returned (.tuple #[.int .i64 ((quoJ a b).getD 0), .bool (quoJ a b).isSome]) ∧ w = w' := by
  by_cases c1 : 0 ≤ a ∧ a ≤ 1000000
  · have hw1 := within_yes c1.1 c1.2
    by_cases c2 : 0 ≤ b ∧ b ≤ 1000000
    · have hw2 := within_yes c2.1 c2.2
      obtain ⟨a1, a2⟩ := c1
      obtain ⟨b1, b2⟩ := c2
      by_cases c3 : a + b = 0
      · have HA := hid (show quoJ a b = none from if_neg (by omega))
        have hz : (a + b == 0) = true := by simp [c3]
        go_enter Try.func16, Try.ntmps16
        go_wp2_with (go_at_call 27; refine (l1In_any _ _ _ _).mono ?_; rintro e w2 ⟨rfl, rfl⟩)
        go_ret2
        rw [HA.out]
        exact ⟨rfl, rfl⟩
      · have hz : (a + b == 0) = false := by simp [c3]
        obtain ⟨q1, q2⟩ := sqBd (x := a) ⟨by omega, by omega⟩
        obtain ⟨q3, q4⟩ := sqBd (x := b) ⟨by omega, by omega⟩
        obtain ⟨q5, q6⟩ := mulBd (x := a) (y := b) (a := 1000000) (b := 1000000) ⟨by omega, by omega⟩ ⟨by omega, by omega⟩ (by omega)
        have hnz : ¬ a * b + 1 = 0 := by omega
        have hsb : -3000000000000 ≤ a * a + b * b ∧ a * a + b * b ≤ 3000000000000 := by omega
        have HD := hid (quoJ_eq (a := a) (b := b) ⟨by omega, by omega⟩ ⟨by omega, by omega⟩ (by omega))
        obtain ⟨r, hr⟩ : ∃ r, (a * a + b * b).tmod (a * b + 1) = r := ⟨_, rfl⟩
        obtain ⟨q, hq⟩ : ∃ q, (a * a + b * b).tdiv (a * b + 1) = q := ⟨_, rfl⟩
        have hrb := tmodBd (d := a * b + 1) hsb
        have hqb := tdivBd (d := a * b + 1) hsb
        rw [hr] at hrb HD
        rw [hq] at hqb HD
        have hrw := wrapEq (q := r) (by omega)
        have hqw := wrapEq (q := q) (by omega)
        by_cases h3 : r = 0
        · have HA := hid (show quoJ a b = some q by rw [HD.out, if_pos h3])
          clear HD
          subst h3
          go_enter Try.func16, Try.ntmps16
          go_wp2_with (go_at_call 27; refine (l1In_any _ _ _ _).mono ?_; rintro e w2 ⟨rfl, rfl⟩)
          go_ret2
          rw [HA.out]
          exact ⟨rfl, rfl⟩
        · have HA := hid (show quoJ a b = none by rw [HD.out, if_neg h3])
          have hne : (r != 0) = true := by simp [h3]
          clear HD
          go_enter Try.func16, Try.ntmps16
          go_wp2_with (go_at_call 27; refine (l1In_any _ _ _ _).mono ?_; rintro e w2 ⟨rfl, rfl⟩)
          go_ret2
          rw [HA.out]
          exact ⟨rfl, rfl⟩
    · have hw2 := within_no c2
      have HA := hid (show quoJ a b = none from if_neg (by omega))
      clear c1 c2
      go_enter Try.func16, Try.ntmps16
      go_wp2_with (go_at_call 27; refine (l1In_any _ _ _ _).mono ?_; rintro e w2 ⟨rfl, rfl⟩)
      go_ret2
      rw [HA.out]
      exact ⟨rfl, rfl⟩
  · have hw1 := within_no c1
    have HA := hid (show quoJ a b = none from if_neg (by omega))
    clear c1
    go_enter Try.func16, Try.ntmps16
    go_wp2_with (go_at_call 27; refine (l1In_any _ _ _ _).mono ?_; rintro e w2 ⟨rfl, rfl⟩)
    go_ret2
    rw [HA.out]
    exact ⟨rfl, rfl⟩
theorem specSquareQuotient_any (a b : Int) (w : World) : Calls Try.prog 7 #[.int .i64 a, .int .i64 b] w fun e w' => NumAns w (quoJ a b) e w' := by
  have HQ := hid (fun w0 => juQuotient_any a b w0)
  obtain ⟨o, ho⟩ : ∃ o, quoJ a b = o := ⟨_, rfl⟩
  rw [ho] at HQ ⊢
  obtain ⟨n, hn⟩ : ∃ n, o.getD 0 = n := ⟨_, rfl⟩
  obtain ⟨q, hq⟩ : ∃ q, o.isSome = q := ⟨_, rfl⟩
  unfold NumAns
  rw [hn, hq] at HQ ⊢
  clear ho hn hq
  go_enter Try.func7, Try.ntmps7
  go_wp2_with (go_at_call 16; refine (HQ.out _).mono ?_; rintro e w2 ⟨rfl, rfl⟩)
  go_ret2
  exact ⟨rfl, Later.refl _⟩
end Go.Proofs.Ytdngocjhblpkkac
