/- Jumping roots in the program: KOfPair, SquareQuotient. -/
import Derived.Test.YtdngocjhblpkkacJpA
import Derived.Deep.RegionHeld3
import Derived.Deep.DeepCutAuto
namespace Go.Proofs.Ytdngocjhblpkkac
open Go.RowKit

set_option maxRecDepth 20000 in
set_option maxHeartbeats 2000000 in
theorem quo_far {a b : Int} (h : juN a b = false) (hab : b ≤ a) : quoJ a b = none ∧ quoJ b a = none := by
  have hh : ¬ (0 ≤ b ∧ b ≤ a ∧ a ≤ 1000000) := of_decide_eq_false h
  exact ⟨if_neg (by omega), if_neg (by omega)⟩
set_option maxRecDepth 20000 in
set_option maxHeartbeats 4000000 in
theorem implSquareQuotient_any (a b : Int) (w : World) :
    Calls Try.prog 6 #[.int .i64 a, .int .i64 b] w fun e w' => e = .returned (.tuple #[.int .i64 ((quoJ a b).getD 0), .bool (quoJ a b).isSome]) ∧ w = w' := by
  by_cases h1 : a < b
  · have h0 : a ≤ b := by omega
    cases hN : juN b a
    · have HN := hid hN
      have HA := hid (show quoJ a b = none from (quo_far hN (by omega)).2)
      clear hN
      go_enter Try.func6, Try.ntmps6
      go_wp2_with (go_at_call 15; refine (areJN_as _ _ _ _ HN.out).mono ?_; rintro e w2 ⟨rfl, rfl⟩)
      go_ret2
      rw [HA.out]
      exact ⟨rfl, rfl⟩
    · have HN := hid hN
      obtain ⟨m1, m2, m3⟩ := juN_iff.1 hN
      obtain ⟨q1, q2⟩ := sqBd (x := a) ⟨by omega, by omega⟩
      obtain ⟨q3, q4⟩ := sqBd (x := b) ⟨by omega, by omega⟩
      obtain ⟨q5, q6⟩ := mulBd (x := a) (y := b) (a := 1000000) (b := 1000000) ⟨by omega, by omega⟩ ⟨by omega, by omega⟩ (by omega)
      have hnz : ¬ a * b + 1 = 0 := by omega
      have hm0 : ¬ b = 0 := by omega
      have hsb : -3000000000000 ≤ a * a + b * b ∧ a * a + b * b ≤ 3000000000000 := by omega
      have HD := hid (quoJ_eq (a := a) (b := b) ⟨by omega, by omega⟩ ⟨by omega, by omega⟩ (by omega))
      obtain ⟨r, hr⟩ : ∃ r, (a * a + b * b).tmod (a * b + 1) = r := ⟨_, rfl⟩
      obtain ⟨q, hq⟩ : ∃ q, (a * a + b * b).tdiv (a * b + 1) = q := ⟨_, rfl⟩
      have hrb := tmodBd (d := a * b + 1) hsb
      have hqb := tdivBd (d := a * b + 1) hsb
      rw [hr] at hrb HD
      rw [hq] at hqb HD
      have hrw := wrapEq (q := r) (by omega)
      have hqw := wrapEq (q := q) (by omega)
      clear hN
      by_cases h3 : r = 0
      · have HA := hid (show quoJ a b = some q by rw [HD.out, if_pos h3])
        clear HD
        subst h3
        go_enter Try.func6, Try.ntmps6
        go_wp2_with (go_at_call 15; refine (areJN_as _ _ _ _ HN.out).mono ?_; rintro e w2 ⟨rfl, rfl⟩)
        go_ret2
        rw [HA.out]
        exact ⟨rfl, rfl⟩
      · have HA := hid (show quoJ a b = none by rw [HD.out, if_neg h3])
        have hne : (r != 0) = true := by simp [h3]
        clear HD
        go_enter Try.func6, Try.ntmps6
        go_wp2_with (go_at_call 15; refine (areJN_as _ _ _ _ HN.out).mono ?_; rintro e w2 ⟨rfl, rfl⟩)
        go_ret2
        rw [HA.out]
        exact ⟨rfl, rfl⟩
  · by_cases h2 : b < a
    · have h0 : b ≤ a := by omega
      have h5 : ¬ a ≤ b := by omega
      cases hN : juN a b
      · have HN := hid hN
        have HA := hid (show quoJ a b = none from (quo_far hN (by omega)).1)
        clear hN
        go_enter Try.func6, Try.ntmps6
        go_wp2_with (go_at_call 15; refine (areJN_as _ _ _ _ HN.out).mono ?_; rintro e w2 ⟨rfl, rfl⟩)
        go_ret2
        rw [HA.out]
        exact ⟨rfl, rfl⟩
      · have HN := hid hN
        obtain ⟨m1, m2, m3⟩ := juN_iff.1 hN
        obtain ⟨q1, q2⟩ := sqBd (x := a) ⟨by omega, by omega⟩
        obtain ⟨q3, q4⟩ := sqBd (x := b) ⟨by omega, by omega⟩
        obtain ⟨q5, q6⟩ := mulBd (x := a) (y := b) (a := 1000000) (b := 1000000) ⟨by omega, by omega⟩ ⟨by omega, by omega⟩ (by omega)
        have hnz : ¬ a * b + 1 = 0 := by omega
        have hm0 : ¬ a = 0 := by omega
        have hsb : -3000000000000 ≤ a * a + b * b ∧ a * a + b * b ≤ 3000000000000 := by omega
        have HD := hid (quoJ_eq (a := a) (b := b) ⟨by omega, by omega⟩ ⟨by omega, by omega⟩ (by omega))
        obtain ⟨r, hr⟩ : ∃ r, (a * a + b * b).tmod (a * b + 1) = r := ⟨_, rfl⟩
        obtain ⟨q, hq⟩ : ∃ q, (a * a + b * b).tdiv (a * b + 1) = q := ⟨_, rfl⟩
        have hrb := tmodBd (d := a * b + 1) hsb
        have hqb := tdivBd (d := a * b + 1) hsb
        rw [hr] at hrb HD
        rw [hq] at hqb HD
        have hrw := wrapEq (q := r) (by omega)
        have hqw := wrapEq (q := q) (by omega)
        clear hN
        by_cases h3 : r = 0
        · have HA := hid (show quoJ a b = some q by rw [HD.out, if_pos h3])
          clear HD
          subst h3
          go_enter Try.func6, Try.ntmps6
          go_wp2_with (go_at_call 15; refine (areJN_as _ _ _ _ HN.out).mono ?_; rintro e w2 ⟨rfl, rfl⟩)
          go_ret2
          rw [HA.out]
          exact ⟨rfl, rfl⟩
        · have HA := hid (show quoJ a b = none by rw [HD.out, if_neg h3])
          have hne : (r != 0) = true := by simp [h3]
          clear HD
          go_enter Try.func6, Try.ntmps6
          go_wp2_with (go_at_call 15; refine (areJN_as _ _ _ _ HN.out).mono ?_; rintro e w2 ⟨rfl, rfl⟩)
          go_ret2
          rw [HA.out]
          exact ⟨rfl, rfl⟩
    · obtain rfl : b = a := by omega
      by_cases hz : b = 0
      · subst hz
        have HN := hid (show juN 0 0 = true by decide)
        have HA := hid (show quoJ 0 0 = none from if_neg (by omega))
        go_enter Try.func6, Try.ntmps6
        go_wp2_with (go_at_call 15; refine (areJN_as _ _ _ _ HN.out).mono ?_; rintro e w2 ⟨rfl, rfl⟩)
        go_ret2
        rw [HA.out]
        exact ⟨rfl, rfl⟩
      cases hN : juN b b
      · have HN := hid hN
        have HA := hid (show quoJ b b = none from (quo_far hN (by omega)).2)
        clear hN
        go_enter Try.func6, Try.ntmps6
        go_wp2_with (go_at_call 15; refine (areJN_as _ _ _ _ HN.out).mono ?_; rintro e w2 ⟨rfl, rfl⟩)
        go_ret2
        rw [HA.out]
        exact ⟨rfl, rfl⟩
      · have HN := hid hN
        obtain ⟨m1, m2, m3⟩ := juN_iff.1 hN
        obtain ⟨q1, q2⟩ := sqBd (x := b) ⟨by omega, by omega⟩
        obtain ⟨q3, q4⟩ := sqBd (x := b) ⟨by omega, by omega⟩
        obtain ⟨q5, q6⟩ := mulBd (x := b) (y := b) (a := 1000000) (b := 1000000) ⟨by omega, by omega⟩ ⟨by omega, by omega⟩ (by omega)
        have hnz : ¬ b * b + 1 = 0 := by omega
        have hm0 : ¬ b = 0 := by omega
        have hsb : -3000000000000 ≤ b * b + b * b ∧ b * b + b * b ≤ 3000000000000 := by omega
        have HD := hid (quoJ_eq (a := b) (b := b) ⟨by omega, by omega⟩ ⟨by omega, by omega⟩ (by omega))
        obtain ⟨r, hr⟩ : ∃ r, (b * b + b * b).tmod (b * b + 1) = r := ⟨_, rfl⟩
        obtain ⟨q, hq⟩ : ∃ q, (b * b + b * b).tdiv (b * b + 1) = q := ⟨_, rfl⟩
        have hrb := tmodBd (d := b * b + 1) hsb
        have hqb := tdivBd (d := b * b + 1) hsb
        rw [hr] at hrb HD
        rw [hq] at hqb HD
        have hrw := wrapEq (q := r) (by omega)
        have hqw := wrapEq (q := q) (by omega)
        clear hN
        by_cases h3 : r = 0
        · have HA := hid (show quoJ b b = some q by rw [HD.out, if_pos h3])
          clear HD
          subst h3
          go_enter Try.func6, Try.ntmps6
          go_wp2_with (go_at_call 15; refine (areJN_as _ _ _ _ HN.out).mono ?_; rintro e w2 ⟨rfl, rfl⟩)
          go_ret2
          rw [HA.out]
          exact ⟨rfl, rfl⟩
        · have HA := hid (show quoJ b b = none by rw [HD.out, if_neg h3])
          have hne : (r != 0) = true := by simp [h3]
          clear HD
          go_enter Try.func6, Try.ntmps6
          go_wp2_with (go_at_call 15; refine (areJN_as _ _ _ _ HN.out).mono ?_; rintro e w2 ⟨rfl, rfl⟩)
          go_ret2
          rw [HA.out]
          exact ⟨rfl, rfl⟩
end Go.Proofs.Ytdngocjhblpkkac
