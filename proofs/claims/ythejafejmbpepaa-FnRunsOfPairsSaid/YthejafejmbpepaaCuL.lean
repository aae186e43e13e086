/- What the big laws call: big, vSame, vSameLists (at lists that are the same). -/
import Derived.Test.YthejafejmbpepaaCuA
namespace Go.Proofs.Ythejafejmbpepaa
open Go.RowKit

theorem bytes_form {w : World} {v : Value} {bs : List Int} (h : BytesR w v bs) : ∃ a cap, v = .slice a bs.length cap := by
  obtain ⟨a, cap, rfl, _⟩ := h
  exact ⟨a, cap, rfl⟩
def BigRes (n m : Nat) (e : Ending) : Prop := ∃ b : Bool, e = .returned (.bool b) ∧ (b = false → n ≤ 1048576 ∧ m ≤ 1048576)
theorem big_any (u v : Value) (xs ys : List Int) (w : World) (hx : BytesR w u xs) (hy : BytesR w v ys) :
    Calls Try.prog 6 #[u, v] w fun e w' => BigRes xs.length ys.length e ∧ w = w' := by
  obtain ⟨a, c, rfl⟩ := bytes_form hx
  obtain ⟨a2, c2, rfl⟩ := bytes_form hy
  obtain ⟨_, _, _, hl1, _⟩ := hx
  obtain ⟨_, _, _, hl2, _⟩ := hy
  by_cases h1 : xs.length ≤ 1048576
  · have h1I : (xs.length : Int) ≤ 1048576 := by omega
    by_cases h2 : ys.length ≤ 1048576 - xs.length
    · have h2I : (ys.length : Int) ≤ 1048576 - (xs.length : Int) := by omega
      go_enter Try.func6, Try.ntmps6
      go_wp2_with fail
      go_ret
      exact ⟨⟨_, rfl, fun _ => ⟨h1, by omega⟩⟩, rfl⟩
    · have h2I : ¬ (ys.length : Int) ≤ 1048576 - (xs.length : Int) := by omega
      go_enter Try.func6, Try.ntmps6
      go_wp2_with fail
      go_ret
      exact ⟨⟨true, rfl, fun h => by cases h⟩, rfl⟩
  · have h1I : ¬ (xs.length : Int) ≤ 1048576 := by omega
    go_enter Try.func6, Try.ntmps6
    go_wp2_with fail
    go_ret
    exact ⟨⟨true, rfl, fun h => by cases h⟩, rfl⟩
set_option maxHeartbeats 1000000 in
theorem vSame_same (u v : Value) (xs : List Int) (w : World) (hx : Ints w u xs) (hy : Ints w v xs) :
    Calls Try.prog 16 #[u, v] w fun e w' => e = .returned (.bool true) ∧ ∃ n, w' = w.drewN n := by
  obtain ⟨a, cap, rfl, hl, hc⟩ := hx
  obtain ⟨b, cap2, rfl, hl2, hc2⟩ := hy
  have HC := hid hc
  have HC2 := hid hc2
  have hne : ((xs.length : Int) != (xs.length : Int)) = false := by simp
  clear hc hc2
  go_enter Try.func16, Try.ntmps16
  go_wp2_with fail
  go_loopw [13] (fun i wr => ∃ k n : Nat, k ≤ xs.length ∧ i = .int .i64 k ∧ wr = w.drewN n) (fun i _ => xs.length - (intOf i).toNat)
  case atStart => exact ⟨0, 0, Nat.zero_le _, rfl, rfl⟩
  case round =>
    obtain ⟨k, n, hk, rfl, rfl⟩ := hrel
    by_cases hlt : k < xs.length
    · obtain ⟨ad, rfl, hcell⟩ := HC.out k hlt
      obtain ⟨ad2, rfl, hcell2⟩ := HC2.out k hlt
      have hi1 : (k : Int) < (xs.length : Int) := by omega
      obtain ⟨z, hz⟩ : ∃ z, xs.getD k 0 = z := ⟨_, rfl⟩
      rw [hz] at hcell hcell2
      have hb : (z != z) = false := by simp
      clear hz
      go_wp2_with fail
      go_quiet (fail)
      go_wp2_with fail
      go_roundw
      case rel => exact ⟨k + 1, n + nq, hlt, by go_num, by simp⟩
      case measure => simp [intOf]; omega
    · go_wp2_with fail
      go_ret
      exact ⟨rfl, n, rfl⟩
set_option maxHeartbeats 2000000 in
theorem vSameLists_same (u v : Value) (xs : List (List Int)) (w : World) (hx : Rows2 w u xs) (hy : Rows2 w v xs) :
    Calls Try.prog 19 #[u, v] w fun e w' => e = .returned (.bool true) ∧ ∃ n, w' = w.drewN n := by
  obtain ⟨a, cap, rfl, hl, hc⟩ := hx
  obtain ⟨b, cap2, rfl, hl2, hc2⟩ := hy
  have HC := hid hc
  have HC2 := hid hc2
  have hne : ((xs.length : Int) != (xs.length : Int)) = false := by simp
  clear hc hc2
  go_enter Try.func19, Try.ntmps19
  go_wp2_with fail
  go_loopw [13] (fun i wr => ∃ k : Nat, k ≤ xs.length ∧ i = .int .i64 k ∧ Drew w wr) (fun i _ => xs.length - (intOf i).toNat)
  case atStart => exact ⟨0, Nat.zero_le _, rfl, Drew.refl w⟩
  case round =>
    obtain ⟨k, hk, rfl, hdr⟩ := hrel
    have HD := hid hdr
    clear hdr
    by_cases hlt : k < xs.length
    · obtain ⟨ad, u1, rfl, hcell, hu1⟩ := HC.out k hlt
      obtain ⟨ad2, u2, rfl, hcell2, hu2⟩ := HC2.out k hlt
      have hi1 : (k : Int) < (xs.length : Int) := by omega
      have HU1 := hid (hu1.later HD.out.later)
      have HU2 := hid (hu2.later HD.out.later)
      have hcellr := HD.out.later.cell hcell
      have hcellr2 := HD.out.later.cell hcell2
      have HQ := hid (fun m => vSame_same u1 u2 (xs.getD k []) _ (HU1.out.drewN m) (HU2.out.drewN m))
      clear hu1 hu2 hcell hcell2
      go_wp2_with fail
      go_quiet ((go_at_call 16; exact Calls.quiet_of (HQ.out _)))
      go_wp2_with fail
      go_roundw
      case rel => exact ⟨k + 1, hlt, by go_num, HD.out.step nq⟩
      case measure => simp [intOf]; omega
    · go_wp2_with fail
      go_ret
      exact ⟨rfl, HD.out⟩
end Go.Proofs.Ythejafejmbpepaa
