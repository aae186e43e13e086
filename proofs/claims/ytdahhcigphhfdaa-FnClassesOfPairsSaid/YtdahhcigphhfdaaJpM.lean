/- Jumping roots in the program: KOfPair, SquareQuotient. -/
import Derived.Test.YtdahhcigphhfdaaJpA
import Derived.Deep.RegionHeld3
import Derived.Deep.DeepCutAuto
namespace Go.Proofs.Ytdahhcigphhfdaa
open Go.RowKit

theorem isK_as (k : Int) (b : Bool) (w : World) (h : decide (1 ≤ k ∧ k ≤ 1000) = b) : Calls Try.prog 85 #[.int .i64 k] w fun e w' => e = .returned (.bool b) ∧ w = w' := by
  subst h; exact isK_any k w
theorem isC_as (k : Int) (b : Bool) (w : World) (h : decide (-1000 ≤ k ∧ k ≤ 1000) = b) : Calls Try.prog 77 #[.int .i64 k] w fun e w' => e = .returned (.bool b) ∧ w = w' := by
  subst h; exact isC_any k w
set_option maxRecDepth 20000 in
set_option maxHeartbeats 2000000 in
theorem implKOfPair_any (x y c : Int) (w : World) :
    Calls Try.prog 19 #[.int .i64 x, .int .i64 y, .int .i64 c] w fun e w' => e = .returned (.tuple #[.int .i64 ((kOf x y c).getD 0), .bool (kOf x y c).isSome]) ∧ w = w' := by
  by_cases h1 : y < 1
  · have HA := hid (show kOf x y c = none from if_neg (by omega))
    go_enter Try.func19, Try.ntmps19
    go_wp2_with fail
    go_ret2
    rw [HA.out]
    exact ⟨rfl, rfl⟩
  · cases hN : juN x y
    · have HN := hid hN
      have HA := hid (show kOf x y c = none from if_neg (by rw [hN]; simp))
      clear hN
      go_enter Try.func19, Try.ntmps19
      go_wp2_with (go_at_call 84; refine (areJN_as _ _ _ _ HN.out).mono ?_; rintro e w2 ⟨rfl, rfl⟩)
      go_ret2
      rw [HA.out]
      exact ⟨rfl, rfl⟩
    · by_cases h2 : -1000 ≤ c ∧ c ≤ 1000
      · have HN := hid hN
        have HC := hid (show decide (-1000 ≤ c ∧ c ≤ 1000) = true from decide_eq_true h2)
        obtain ⟨y1, y2, x2⟩ := juN_iff.1 hN
        obtain ⟨e1, e2⟩ := h2
        obtain ⟨q1, q2⟩ := sqBd (x := x) ⟨by omega, x2⟩
        obtain ⟨q3, q4⟩ := sqBd (x := y) ⟨y1, by omega⟩
        obtain ⟨q5, q6⟩ := mulBd (x := x) (y := y) (a := 1000000) (b := 1000000) ⟨by omega, x2⟩ ⟨y1, by omega⟩ (by omega)
        have hp : 0 < x * y := Int.mul_pos (by omega) (by omega)
        have hnz : ¬ x * y = 0 := by omega
        obtain ⟨r, hr⟩ : ∃ r, (x * x + y * y + c).tmod (x * y) = r := ⟨_, rfl⟩
        obtain ⟨q, hq⟩ : ∃ q, (x * x + y * y + c).tdiv (x * y) = q := ⟨_, rfl⟩
        have hsb : -3000000000000 ≤ x * x + y * y + c ∧ x * x + y * y + c ≤ 3000000000000 := by omega
        have hrb := tmodBd (d := x * y) hsb
        have hqb := tdivBd (d := x * y) hsb
        rw [hr] at hrb
        rw [hq] at hqb
        have hrw := wrapEq (q := r) (by omega)
        have hqw := wrapEq (q := q) (by omega)
        have HD := hid (show kOf x y c = if r = 0 ∧ 1 ≤ q ∧ q ≤ 1000 then some q else none by
          rw [kOf_eq (by omega) hN ⟨e1, e2⟩, hr, hq])
        clear hN
        by_cases h3 : r = 0
        · cases h4 : decide (1 ≤ q ∧ q ≤ 1000)
          · have HK := hid h4
            have HA := hid (show kOf x y c = none by rw [HD.out, if_neg (by have := of_decide_eq_false h4; omega)])
            clear h4 HD
            subst h3
            go_enter Try.func19, Try.ntmps19
            go_wp2_with (first | (go_at_call 84; refine (areJN_as _ _ _ _ HN.out).mono ?_; rintro e w2 ⟨rfl, rfl⟩) | (go_at_call 77; refine (isC_as _ _ _ HC.out).mono ?_; rintro e w2 ⟨rfl, rfl⟩) | (go_at_call 85; refine (isK_as _ _ _ HK.out).mono ?_; rintro e w2 ⟨rfl, rfl⟩))
            go_ret2
            rw [HA.out]
            exact ⟨rfl, rfl⟩
          · have HK := hid h4
            have HA := hid (show kOf x y c = some q by rw [HD.out, if_pos (by have := of_decide_eq_true h4; omega)])
            clear h4 HD
            subst h3
            go_enter Try.func19, Try.ntmps19
            go_wp2_with (first | (go_at_call 84; refine (areJN_as _ _ _ _ HN.out).mono ?_; rintro e w2 ⟨rfl, rfl⟩) | (go_at_call 77; refine (isC_as _ _ _ HC.out).mono ?_; rintro e w2 ⟨rfl, rfl⟩) | (go_at_call 85; refine (isK_as _ _ _ HK.out).mono ?_; rintro e w2 ⟨rfl, rfl⟩))
            go_ret2
            rw [HA.out]
            exact ⟨rfl, rfl⟩
        · have HA := hid (show kOf x y c = none by rw [HD.out, if_neg (by omega)])
          have hne : (r != 0) = true := by simp [h3]
          clear HD
          go_enter Try.func19, Try.ntmps19
          go_wp2_with (first | (go_at_call 84; refine (areJN_as _ _ _ _ HN.out).mono ?_; rintro e w2 ⟨rfl, rfl⟩) | (go_at_call 77; refine (isC_as _ _ _ HC.out).mono ?_; rintro e w2 ⟨rfl, rfl⟩))
          go_ret2
          rw [HA.out]
          exact ⟨rfl, rfl⟩
      · have HN := hid hN
        have HC := hid (show decide (-1000 ≤ c ∧ c ≤ 1000) = false from decide_eq_false h2)
        have HA := hid (show kOf x y c = none from if_neg (by rw [hN]; omega))
        clear hN h2
        go_enter Try.func19, Try.ntmps19
        go_wp2_with (first | (go_at_call 84; refine (areJN_as _ _ _ _ HN.out).mono ?_; rintro e w2 ⟨rfl, rfl⟩) | (go_at_call 77; refine (isC_as _ _ _ HC.out).mono ?_; rintro e w2 ⟨rfl, rfl⟩))
        go_ret2
        rw [HA.out]
        exact ⟨rfl, rfl⟩
set_option maxRecDepth 20000 in
set_option maxHeartbeats 2000000 in
theorem quo_far {a b : Int} (h : juN a b = false) (hab : b ≤ a) : quoJ a b = none ∧ quoJ b a = none := by
  have hh : ¬ (0 ≤ b ∧ b ≤ a ∧ a ≤ 1000000) := of_decide_eq_false h
  exact ⟨if_neg (by omega), if_neg (by omega)⟩
end Go.Proofs.Ytdahhcigphhfdaa
