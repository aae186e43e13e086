/- Numbers refused by 8, in both. -/
import Derived.Test.YtcgdegmhajfbaaaSqG
namespace Go.Proofs.Ytcgdegmhajfbaaa
open Go.RowKit

def e8F : Nat → Nat → Bool
  | 0, n => decide (n % 8 = 7)
  | f + 1, n => if 0 < n ∧ n % 4 = 0 then e8F f (n / 4) else decide (n % 8 = 7)
def e8Ans (n : Int) : Option Bool := if 0 ≤ n ∧ n ≤ 1000000 then some (e8F n.toNat n.toNat) else none
theorem e8_step {f n : Nat} (hn : n ≤ f) : e8F f n = if 0 < n ∧ n % 4 = 0 then e8F (f - 1) (n / 4) else decide (n % 8 = 7) := by
  cases f with
  | zero => rw [if_neg (by omega)]; rfl
  | succ f => rfl
set_option maxHeartbeats 1000000 in
theorem specIsRefusedByEight_any (n : Int) (w : World) : Calls Try.prog 18 #[.int .i64 n] w fun e w' => BoolAns w (e8Ans n) e w' := by
  by_cases h : 0 ≤ n ∧ n ≤ 1000000
  · obtain ⟨m, rfl⟩ : ∃ m : Nat, n = (m : Int) := ⟨n.toNat, by omega⟩
    obtain ⟨R, hR⟩ : ∃ R, e8F m m = R := ⟨_, rfl⟩
    have HA := hid (show e8Ans (m : Int) = some R by unfold e8Ans; rw [if_pos h, Int.toNat_natCast, hR])
    have HB := hid (inB_true h)
    have HR := hid hR
    have hm6 : m ≤ 1000000 := by omega
    clear hR h
    go_enter Try.func18, Try.ntmps18
    go_wp2_with (go_at_call 27; refine (sqNumber_as _ _ _ HB.out).mono ?_; rintro e w2 ⟨rfl, rfl⟩)
    go_loop [0] (fun a => ∃ k f : Nat, a = .int .i64 k ∧ k ≤ m ∧ k ≤ f ∧ e8F f k = R) (fun a => (intOf a).toNat)
    case atStart => exact ⟨m, m, rfl, by omega, by omega, HR.out⟩
    case round =>
      obtain ⟨k, f, rfl, hkm, hkf, hF⟩ := hrel
      have HS := hid (show (if 0 < k ∧ k % 4 = 0 then e8F (f - 1) (k / 4) else decide (k % 8 = 7)) = R by rw [← hF, e8_step hkf])
      clear hF
      obtain ⟨t, ht⟩ : ∃ t : Nat, k % 4 = t := ⟨_, rfl⟩
      have q1 : (k : Int).tmod 4 = (t : Int) := by rw [← ht]; exact tmodN k 4
      have q1' : (k : Int) % 4 = (t : Int) := by omega
      obtain ⟨d, hd⟩ : ∃ d : Nat, k / 4 = d := ⟨_, rfl⟩
      have q2 : (k : Int).tdiv 4 = (d : Int) := by rw [← hd]; exact tdivN k 4
      have q2' : (k : Int) / 4 = (d : Int) := by omega
      obtain ⟨s, hs⟩ : ∃ s : Nat, k % 8 = s := ⟨_, rfl⟩
      have q3 : (k : Int).tmod 8 = (s : Int) := by rw [← hs]; exact tmodN k 8
      have q3' : (k : Int) % 8 = (s : Int) := by omega
      rw [ht, hd, hs] at HS
      by_cases h0 : (0 : Int) < (k : Int)
      · by_cases ht0 : t = 0
        · have hb : ((t : Int) == 0) = true := by simp [ht0]
          have HN := hid (show e8F (f - 1) d = R by rw [← HS.out, if_pos ⟨by omega, ht0⟩])
          have hdk : d < k := by omega
          clear ht hd hs
          go_wp2_with fail
          go_round
          case rel => exact ⟨d, f - 1, rfl, by omega, by omega, HN.out⟩
          case measure => simp [intOf]; omega
        · have hb : ((t : Int) == 0) = false := by simp [ht0]
          have HN := hid (show decide (s = 7) = R by rw [← HS.out, if_neg (by omega)])
          clear ht hd hs
          go_wp2_with fail
          go_ret2
          exact ⟨by rw [HA.out, ← HN.out]; show Ending.returned (.tuple #[.bool ((s : Int) == 7), .bool true]) = _; rw [show ((s : Int) == 7) = decide (s = 7) by rw [Bool.eq_iff_iff]; simp; omega]; rfl, Later.refl _⟩
      · have hb : decide ((0 : Int) < (k : Int)) = false := decide_eq_false h0
        have HN := hid (show decide (s = 7) = R by rw [← HS.out, if_neg (by omega)])
        clear ht hd hs
        go_wp2_with fail
        go_ret2
        exact ⟨by rw [HA.out, ← HN.out]; show Ending.returned (.tuple #[.bool ((s : Int) == 7), .bool true]) = _; rw [show ((s : Int) == 7) = decide (s = 7) by rw [Bool.eq_iff_iff]; simp; omega]; rfl, Later.refl _⟩
  · have HA := hid (show e8Ans n = none from if_neg h)
    have HB := hid (inB_false h)
    clear h
    go_enter Try.func18, Try.ntmps18
    go_wp2_with (go_at_call 27; refine (sqNumber_as _ _ _ HB.out).mono ?_; rintro e w2 ⟨rfl, rfl⟩)
    go_ret2
    exact ⟨by rw [HA.out]; rfl, Later.refl _⟩
set_option maxHeartbeats 1000000 in
theorem implIsRefusedByEight_any (n : Int) (w : World) : Calls Try.prog 19 #[.int .i64 n] w fun e w' => BoolAns w (e8Ans n) e w' := by
  by_cases h : 0 ≤ n ∧ n ≤ 1000000
  · obtain ⟨m, rfl⟩ : ∃ m : Nat, n = (m : Int) := ⟨n.toNat, by omega⟩
    obtain ⟨R, hR⟩ : ∃ R, e8F m m = R := ⟨_, rfl⟩
    have HA := hid (show e8Ans (m : Int) = some R by unfold e8Ans; rw [if_pos h, Int.toNat_natCast, hR])
    have HB := hid (inB_true h)
    have HR := hid hR
    have hm6 : m ≤ 1000000 := by omega
    clear hR h
    go_enter Try.func19, Try.ntmps19
    go_wp2_with (go_at_call 30; refine (isSum_as _ _ _ _ HB.out).mono ?_; rintro e w2 ⟨rfl, rfl⟩)
    go_loop [0] (fun a => ∃ k f : Nat, a = .int .i64 k ∧ k ≤ m ∧ k ≤ f ∧ e8F f k = R) (fun a => (intOf a).toNat)
    case atStart => exact ⟨m, m, rfl, by omega, by omega, HR.out⟩
    case round =>
      obtain ⟨k, f, rfl, hkm, hkf, hF⟩ := hrel
      have HS := hid (show (if 0 < k ∧ k % 4 = 0 then e8F (f - 1) (k / 4) else decide (k % 8 = 7)) = R by rw [← hF, e8_step hkf])
      clear hF
      obtain ⟨t, ht⟩ : ∃ t : Nat, k % 4 = t := ⟨_, rfl⟩
      have q1 : (k : Int).tmod 4 = (t : Int) := by rw [← ht]; exact tmodN k 4
      have q1' : (k : Int) % 4 = (t : Int) := by omega
      obtain ⟨d, hd⟩ : ∃ d : Nat, k / 4 = d := ⟨_, rfl⟩
      have q2 : (k : Int).tdiv 4 = (d : Int) := by rw [← hd]; exact tdivN k 4
      have q2' : (k : Int) / 4 = (d : Int) := by omega
      obtain ⟨s, hs⟩ : ∃ s : Nat, k % 8 = s := ⟨_, rfl⟩
      have q3 : (k : Int).tmod 8 = (s : Int) := by rw [← hs]; exact tmodN k 8
      have q3' : (k : Int) % 8 = (s : Int) := by omega
      rw [ht, hd, hs] at HS
      by_cases h0 : (0 : Int) < (k : Int)
      · by_cases ht0 : t = 0
        · have hb : ((t : Int) == 0) = true := by simp [ht0]
          have HN := hid (show e8F (f - 1) d = R by rw [← HS.out, if_pos ⟨by omega, ht0⟩])
          have hdk : d < k := by omega
          clear ht hd hs
          go_wp2_with fail
          go_round
          case rel => exact ⟨d, f - 1, rfl, by omega, by omega, HN.out⟩
          case measure => simp [intOf]; omega
        · have hb : ((t : Int) == 0) = false := by simp [ht0]
          have HN := hid (show decide (s = 7) = R by rw [← HS.out, if_neg (by omega)])
          clear ht hd hs
          go_wp2_with fail
          go_ret2
          exact ⟨by rw [HA.out, ← HN.out]; show Ending.returned (.tuple #[.bool ((s : Int) == 7), .bool true]) = _; rw [show ((s : Int) == 7) = decide (s = 7) by rw [Bool.eq_iff_iff]; simp; omega]; rfl, Later.refl _⟩
      · have hb : decide ((0 : Int) < (k : Int)) = false := decide_eq_false h0
        have HN := hid (show decide (s = 7) = R by rw [← HS.out, if_neg (by omega)])
        clear ht hd hs
        go_wp2_with fail
        go_ret2
        exact ⟨by rw [HA.out, ← HN.out]; show Ending.returned (.tuple #[.bool ((s : Int) == 7), .bool true]) = _; rw [show ((s : Int) == 7) = decide (s = 7) by rw [Bool.eq_iff_iff]; simp; omega]; rfl, Later.refl _⟩
  · have HA := hid (show e8Ans n = none from if_neg h)
    have HB := hid (inB_false h)
    clear h
    go_enter Try.func19, Try.ntmps19
    go_wp2_with (go_at_call 30; refine (isSum_as _ _ _ _ HB.out).mono ?_; rintro e w2 ⟨rfl, rfl⟩)
    go_ret2
    exact ⟨by rw [HA.out]; rfl, Later.refl _⟩
end Go.Proofs.Ytcgdegmhajfbaaa
