/- Indices in the program: areIndices, isIndexWord. -/
import Derived.Test.YtoaopmafokoaoaaBasA
namespace Go.Proofs.Ytoaopmafokoaoaa
open Go.RowKit

theorem within_below {n : Nat} {x : Int} : within 0 ((n : Int) - 1) x = (decide (0 ≤ x) && decide (x < (n : Int))) := by
  unfold within
  congr 1
  exact decide_eq_decide.2 (by omega)
set_option maxHeartbeats 2000000 in
theorem areIdx_any (v : Value) (zs : List Int) (n : Nat) (w : World) (h : Ints w v zs) :
    Calls Try.prog 93 #[v, .int .i64 (n : Nat)] w fun e w' => e = .returned (.bool (zs.all (within 0 ((n : Int) - 1)))) ∧ w = w' := by
  obtain ⟨p, cap, rfl, hl, hc⟩ := h
  have HC := hid hc
  clear hc
  go_enter Try.func93, Try.ntmps93
  go_wp2_with fail
  go_loop [9] (fun i => ∃ k : Nat, k ≤ zs.length ∧ i = .int .i64 k ∧ (zs.take k).all (within 0 ((n : Int) - 1)) = true) (fun i => zs.length - (intOf i).toNat)
  case atStart => exact ⟨0, Nat.zero_le _, rfl, rfl⟩
  case round =>
    obtain ⟨k, hk, rfl, hal⟩ := hrel
    have HA := hid hal
    clear hal
    by_cases hlt : k < zs.length
    · obtain ⟨ad, rfl, hcell⟩ := HC.out k hlt
      simp only [getD_at zs k hlt] at hcell
      by_cases h1 : zs[k] < 0
      · have HF := hid (all_false_at (within 0 ((n : Int) - 1)) zs k hlt (by rw [within_below, decide_eq_false (show ¬ 0 ≤ zs[k] by omega)]; rfl))
        go_wp2_with fail
        go_ret
        exact ⟨ret_bool HF.out.symm, rfl⟩
      · by_cases h2 : (n : Int) ≤ zs[k]
        · have HF := hid (all_false_at (within 0 ((n : Int) - 1)) zs k hlt (by rw [within_below, decide_eq_false (show ¬ zs[k] < (n : Int) by omega), Bool.and_false]))
          go_wp2_with fail
          go_ret
          exact ⟨ret_bool HF.out.symm, rfl⟩
        · have HT := hid (all_take_succ (within 0 ((n : Int) - 1)) zs k hlt HA.out (by rw [within_below, decide_eq_true (show 0 ≤ zs[k] by omega), decide_eq_true (show zs[k] < (n : Int) by omega)]; rfl))
          go_wp2_with fail
          go_round
          case rel => exact ⟨k + 1, hlt, by go_num, HT.out⟩
          case measure => simp [intOf]; omega
    · go_wp2_with fail
      go_ret
      exact ⟨ret_bool (by rw [← HA.out, List.take_of_length_le (by omega)]), rfl⟩
theorem isIdx_any (v : Value) (zs : List Int) (n : Nat) (w : World) (h : Ints w v zs) :
    Calls Try.prog 87 #[v, .int .i64 (n : Nat)] w fun e w' => e = .returned (.bool (decide (zs.length ≤ 40) && zs.all (within 0 ((n : Int) - 1)))) ∧ w = w' := by
  have H := hid h
  obtain ⟨a, cap, rfl, _, hc⟩ := h
  clear hc
  by_cases hl : zs.length ≤ 40
  · obtain ⟨o, ho⟩ : ∃ o, zs.all (within 0 ((n : Int) - 1)) = o := ⟨_, rfl⟩
    have HA := hid (areIdx_any _ zs n w H.out)
    rw [ho] at HA
    rw [ho, decide_eq_true hl, Bool.true_and]
    clear ho
    have h40 : ¬ (40 : Int) < (zs.length : Int) := by omega
    clear hl
    go_enter Try.func87, Try.ntmps87
    go_wp2_with (go_at_call 93; refine HA.out.mono ?_; rintro e w1 ⟨rfl, rfl⟩)
    go_ret
    exact ⟨rfl, rfl⟩
  · rw [decide_eq_false hl, Bool.false_and]
    have h40 : (40 : Int) < (zs.length : Int) := by omega
    clear hl
    go_enter Try.func87, Try.ntmps87
    go_wp2_with fail
    go_ret
    exact ⟨rfl, rfl⟩
end Go.Proofs.Ytoaopmafokoaoaa
