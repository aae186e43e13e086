/- The same lists, as the laws on chapters 1 to 3 and 6 compare them. -/
import Derived.Test.YtoaopmafokoaoaaAsG
namespace Go.Proofs.Ytoaopmafokoaoaa
open Go.RowKit

set_option maxHeartbeats 1000000 in
theorem dSame_same (u v : Value) (xs : List Int) (w : World) (hx : Ints w u xs) (hy : Ints w v xs) :
    Calls Try.prog 34 #[u, v] w fun e w' => e = .returned (.bool true) ∧ ∃ n, w' = w.drewN n := by
  obtain ⟨a, cap, rfl, hl, hc⟩ := hx
  obtain ⟨b, cap2, rfl, hl2, hc2⟩ := hy
  have HC := hid hc
  have HC2 := hid hc2
  have hne : ((xs.length : Int) != (xs.length : Int)) = false := by simp
  clear hc hc2
  go_enter Try.func34, Try.ntmps34
  go_wp2_with fail
  go_loopw [13] (fun i wr => ∃ k n : Nat, k ≤ xs.length ∧ i = .int .i64 k ∧ wr = w.drewN n) (fun i _ => xs.length - (intOf i).toNat)
  case atStart => exact ⟨0, 0, Nat.zero_le _, rfl, rfl⟩
  case round =>
    obtain ⟨k, n, hk, rfl, rfl⟩ := hrel
    by_cases hlt : k < xs.length
    · obtain ⟨ad, rfl, hcell⟩ := HC.out k hlt
      obtain ⟨ad2, rfl, hcell2⟩ := HC2.out k hlt
      have hi1 : (k : Int) < (xs.length : Int) := by omega
      obtain ⟨z, hz⟩ : ∃ z, xs.getD k 0 = z := ⟨_, rfl⟩
      rw [hz] at hcell hcell2
      have hb : (z != z) = false := by simp
      clear hz
      go_wp2_with fail
      go_quiet (fail)
      go_wp2_with fail
      go_roundw
      case rel => exact ⟨k + 1, n + nq, hlt, by go_num, by simp⟩
      case measure => simp [intOf]; omega
    · go_wp2_with fail
      go_ret
      exact ⟨rfl, n, rfl⟩
set_option maxHeartbeats 2000000 in
theorem dSame_anyG (u v : Value) (xs ys : List Int) (t : Bool) (w : World) (hx : Ints w u xs) (hy : Ints w v ys) (ht : decide (xs = ys) = t) :
    Calls Try.prog 34 #[u, v] w fun e w' => e = .returned (.bool t) ∧ ∃ n, w' = w.drewN n := by
  obtain ⟨a, cap, rfl, hl, hc⟩ := hx
  obtain ⟨b, cap2, rfl, hl2, hc2⟩ := hy
  have HC := hid hc
  have HC2 := hid hc2
  have HT := hid ht
  obtain ⟨n, hn⟩ : ∃ n, xs.length = n := ⟨_, rfl⟩
  obtain ⟨m, hm⟩ : ∃ n, ys.length = n := ⟨_, rfl⟩
  have HN := hid hn
  have HM := hid hm
  rw [hn] at hl ⊢
  rw [hm] at hl2 ⊢
  clear hc hc2 ht hn hm
  by_cases h : n = m
  · subst h
    have hne : ((n : Int) != (n : Int)) = false := by simp
    go_enter Try.func34, Try.ntmps34
    go_wp2_with fail
    go_loopw [13] (fun i wr => ∃ k q : Nat, k ≤ n ∧ i = .int .i64 k ∧ wr = w.drewN q ∧ ∀ j, j < k → xs.getD j 0 = ys.getD j 0) (fun i _ => n - (intOf i).toNat)
    case atStart => exact ⟨0, 0, Nat.zero_le _, rfl, rfl, fun j hj => absurd hj (Nat.not_lt_zero j)⟩
    case round =>
      obtain ⟨k, q, hk, rfl, rfl, hs⟩ := hrel
      have HS := hid hs
      clear hs
      by_cases hlt : k < n
      · obtain ⟨ad, rfl, hcell⟩ := HC.out k (by rw [HN.out]; exact hlt)
        obtain ⟨ad2, rfl, hcell2⟩ := HC2.out k (by rw [HM.out]; exact hlt)
        have hi1 : (k : Int) < (n : Int) := by omega
        obtain ⟨z, hz⟩ : ∃ z, xs.getD k 0 = z := ⟨_, rfl⟩
        obtain ⟨y, hy⟩ : ∃ z, ys.getD k 0 = z := ⟨_, rfl⟩
        have HZ := hid hz
        have HY := hid hy
        rw [hz] at hcell
        rw [hy] at hcell2
        clear hz hy
        by_cases hzy : z = y
        · have HE := hid hzy
          have hb : (z != y) = false := by simp [hzy]
          clear hzy
          go_wp2_with fail
          go_quiet (fail)
          go_wp2_with fail
          go_roundw
          case rel => exact ⟨k + 1, q + nq, hlt, by go_num, by simp, same_stepG HS.out (by rw [HZ.out, HY.out, HE.out])⟩
          case measure => simp [intOf]; omega
        · have HE := hid hzy
          have hb : (z != y) = true := by simp [hzy]
          clear hzy
          go_wp2_with fail
          go_quiet (fail)
          go_wp2_with fail
          go_ret
          refine ⟨?_, q + nq, by simp⟩
          exact ret_boolG (by rw [← HT.out, decide_eq_false (fun e => HE.out (by rw [← HZ.out, ← HY.out, e]))])
      · go_wp2_with fail
        go_ret
        refine ⟨?_, q, rfl⟩
        have e : k = n := by omega
        exact ret_boolG (by rw [← HT.out, decide_eq_true (same_allG (by rw [HN.out, HM.out]) (by rw [HN.out, ← e]; exact HS.out))])
  · have hne : ((n : Int) != (m : Int)) = true := by simp; omega
    have HE := hid h
    clear h
    go_enter Try.func34, Try.ntmps34
    go_wp2_with fail
    go_ret
    refine ⟨?_, 0, rfl⟩
    exact ret_boolG (by rw [← HT.out, decide_eq_false (fun e => HE.out (by rw [← HN.out, ← HM.out, e]))])
end Go.Proofs.Ytoaopmafokoaoaa
