/- Right triples: pairs in the model and in the program. -/
import Derived.Test.YtdahhcigphhfdacRiTT
import Derived.Deep.RegionHeld3
namespace Go.Proofs.Ytdahhcigphhfdac
open Go.RowKit

theorem pairB_no {m n : Int} (h : ¬ Pair m n) : pairB m n = false := by
  cases hp : pairB m n
  · rfl
  · exact absurd (pairB_iff.1 hp) h
theorem validB_no {m n : Int} (h : ¬ Valid m n) : validB m n = false := by
  cases hp : validB m n
  · rfl
  · exact absurd (validB_iff.1 hp) h

set_option maxHeartbeats 2000000 in
theorem riPair_any (m n : Int) (w : World) :
    Calls Try.prog 101 #[.int .i64 m, .int .i64 n] w fun e w' => e = .returned (.bool (pairB m n)) ∧ w = w' := by
  by_cases c1 : 2 ≤ m ∧ m ≤ 31623
  · have hw1 : within 2 31623 m = true := by unfold within; simp; omega
    have b1 := c1.1
    have b2 := c1.2
    by_cases c2 : 1 ≤ n ∧ n ≤ m - 1
    · have hw2 : within 1 (m - 1) n = true := by unfold within; simp; omega
      have b3 := c2.1
      have b4 := c2.2
      have hm2 : (m + n).tmod 2 = (m + n) % 2 := Int.tmod_eq_emod_of_nonneg (by omega)
      by_cases c3 : (m + n) % 2 = 1
      · have HG := hid (fun w0 => foGcd_any (n.natAbs + 1) m n w0 (by omega) ⟨by omega, by omega⟩ ⟨by omega, by omega⟩)
        have q1 : m * m ≤ 31623 * 31623 := Int.mul_le_mul (by omega) (by omega) (by omega) (by omega)
        have q2 : n * n ≤ 31622 * 31622 := Int.mul_le_mul (by omega) (by omega) (by omega) (by omega)
        have q3 : (0 : Int) ≤ m * m := Int.mul_nonneg (by omega) (by omega)
        have q4 : (0 : Int) ≤ n * n := Int.mul_nonneg (by omega) (by omega)
        obtain ⟨g, hg⟩ : ∃ g, gcdW m n = g := ⟨_, rfl⟩
        rw [hg] at HG
        by_cases c4 : g = 1
        · by_cases c5 : m * m + n * n ≤ 1000000000
          · have HA := hid (show pairB m n = true from pairB_iff.2 ⟨⟨b3, by omega, by omega, c3, by rw [hg]; exact c4⟩, c5, sq_le_of b3 (by omega) c5⟩)
            clear hg c1 c2
            subst c4
            go_enter Try.func101, Try.ntmps101
            go_wp2_with (first | (go_at_call 73; refine (l1In_any _ _ _ _).mono ?_; rintro e w' ⟨rfl, rfl⟩) | (go_at_call 135; refine (HG.out _).mono ?_; rintro e w' ⟨rfl, rfl⟩))
            go_ret
            exact ⟨ret_bool HA.out.symm, rfl⟩
          · have HA := hid (pairB_no (m := m) (n := n) fun h => c5 h.h6)
            clear hg c1 c2
            subst c4
            go_enter Try.func101, Try.ntmps101
            go_wp2_with (first | (go_at_call 73; refine (l1In_any _ _ _ _).mono ?_; rintro e w' ⟨rfl, rfl⟩) | (go_at_call 135; refine (HG.out _).mono ?_; rintro e w' ⟨rfl, rfl⟩))
            go_ret
            exact ⟨ret_bool (by rw [HA.out]; exact decide_eq_false (Int.not_le.2 c5)), rfl⟩
        · have HA := hid (pairB_no (m := m) (n := n) fun h => c4 (by rw [← hg]; exact h.h5))
          clear hg c1 c2
          go_enter Try.func101, Try.ntmps101
          go_wp2_with (first | (go_at_call 73; refine (l1In_any _ _ _ _).mono ?_; rintro e w' ⟨rfl, rfl⟩) | (go_at_call 135; refine (HG.out _).mono ?_; rintro e w' ⟨rfl, rfl⟩))
          go_ret
          exact ⟨ret_bool HA.out.symm, rfl⟩
      · have HA := hid (pairB_no (m := m) (n := n) fun h => c3 h.h4)
        clear c1 c2
        go_enter Try.func101, Try.ntmps101
        go_wp2_with (first | (go_at_call 73; refine (l1In_any _ _ _ _).mono ?_; rintro e w' ⟨rfl, rfl⟩))
        go_ret
        exact ⟨ret_bool HA.out.symm, rfl⟩
    · have HA := hid (pairB_no (m := m) (n := n) fun h => c2 ⟨h.h1, by have := h.h2; omega⟩)
      have hw2 : within 1 (m - 1) n = false := by unfold within; simp only [Bool.and_eq_false_iff, decide_eq_false_iff_not]; omega
      clear c1 c2
      go_enter Try.func101, Try.ntmps101
      go_wp2_with (first | (go_at_call 73; refine (l1In_any _ _ _ _).mono ?_; rintro e w' ⟨rfl, rfl⟩))
      go_ret
      exact ⟨ret_bool HA.out.symm, rfl⟩
  · have HA := hid (pairB_no (m := m) (n := n) fun h => c1 ⟨by have := h.h1; have := h.h2; omega, by have := h.h7; omega⟩)
    have hw1 : within 2 31623 m = false := by unfold within; simp only [Bool.and_eq_false_iff, decide_eq_false_iff_not]; omega
    clear c1
    go_enter Try.func101, Try.ntmps101
    go_wp2_with (first | (go_at_call 73; refine (l1In_any _ _ _ _).mono ?_; rintro e w' ⟨rfl, rfl⟩))
    go_ret
    exact ⟨ret_bool HA.out.symm, rfl⟩
end Go.Proofs.Ytdahhcigphhfdac
