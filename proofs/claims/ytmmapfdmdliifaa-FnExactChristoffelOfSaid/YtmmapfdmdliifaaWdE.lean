/- ChristoffelOf in the model; whether letters are a Christoffel word, in both. -/
import Derived.Test.YtmmapfdmdliifaaWdD
import Derived.Test.YtmmapfdmdliifaaWdI
namespace Go.Proofs.Ytmmapfdmdliifaa
open Go.RowKit

theorem gcd_pos {a b : Nat} (h : gcdW (a : Int) (b : Int) = 1) : 1 ≤ a + b := by
  rcases Nat.eq_zero_or_pos (a + b) with h0 | h0
  · obtain rfl : a = 0 := by omega
    obtain rfl : b = 0 := by omega
    have := gcd_zero
    rw [show ((0 : Nat) : Int) = 0 from rfl, this] at h
    omega
  · exact h0
theorem foGcd_at (a b : Int) (w : World) (ha : Mid a) (hb : Mid b) : Calls Try.prog 7 #[.int .i64 a, .int .i64 b] w fun e w' => e = .returned (.int .i64 (gcdW a b)) ∧ w = w' :=
  foGcd_any (b.natAbs + 1) a b w (by omega) ha hb

set_option maxRecDepth 20000 in
set_option maxHeartbeats 2000000 in
theorem specChristoffelOf_any (a b : Int) (w : World) : Calls Try.prog 4 #[.int .i64 a, .int .i64 b] w fun e w' => StrAns w (chAns a b) e w' := by
  by_cases ha : 0 ≤ a ∧ a ≤ 40
  · have HWA := hid ((within_iff 0 40 a).2 ha)
    obtain ⟨ha1, ha2⟩ := ha
    by_cases hb : 0 ≤ b ∧ b ≤ 40 - a
    · have HWB := hid ((within_iff 0 (40 - a) b).2 hb)
      obtain ⟨hb1, hb2⟩ := hb
      have HG := hid (fun w => foGcd_at a b w (mid40 ⟨ha1, ha2⟩) (mid40 ⟨hb1, by omega⟩))
      by_cases hg : gcdW a b = 1
      · obtain ⟨p, rfl⟩ : ∃ p : Nat, a = (p : Int) := ⟨a.toNat, by omega⟩
        obtain ⟨q, rfl⟩ : ∃ q : Nat, b = (q : Int) := ⟨b.toNat, by omega⟩
        have h1 := gcd_pos hg
        have h40 : p + q ≤ 40 := by omega
        have HA := hid (show chAns (p : Int) (q : Int) = some (chW p q) by unfold chAns; rw [if_pos ⟨ha1, ha2, hb1, by omega, hg⟩]; rfl)
        have HNR := hid (fun w => chWord_any p q w h1 h40)
        rw [hg] at HG
        clear hg h1
        go_enter Try.func4, Try.ntmps4
        go_wp2_with fail
        refine (l1In_as _ _ _ _ _ HWA.out).mono ?_
        rintro e w' ⟨rfl, rfl⟩
        go_wp2_with fail
        refine (l1In_as _ _ _ _ _ HWB.out).mono ?_
        rintro e w' ⟨rfl, rfl⟩
        go_wp2_with fail
        refine (HG.out _).mono ?_
        rintro e w1 ⟨rfl, rfl⟩
        go_wp2_with fail
        refine (HNR.out _).mono ?_
        rintro e w2 ⟨rfl, hL2⟩
        have HL2 := hid hL2
        clear hL2
        go_wp2_with fail
        go_ret2
        rw [HA.out]
        exact ⟨rfl, HL2.out⟩
      · have HA := hid (show chAns a b = none by unfold chAns; rw [if_neg (fun h => hg h.2.2.2.2)])
        have hgb : (gcdW a b != 1) = true := by simp [hg]
        obtain ⟨g, hgv⟩ : ∃ g, gcdW a b = g := ⟨_, rfl⟩
        rw [hgv] at HG hgb
        clear hg hgv
        go_enter Try.func4, Try.ntmps4
        go_wp2_with fail
        refine (l1In_as _ _ _ _ _ HWA.out).mono ?_
        rintro e w' ⟨rfl, rfl⟩
        go_wp2_with fail
        refine (l1In_as _ _ _ _ _ HWB.out).mono ?_
        rintro e w' ⟨rfl, rfl⟩
        go_wp2_with fail
        refine (HG.out _).mono ?_
        rintro e w1 ⟨rfl, rfl⟩
        go_wp2_with fail
        go_ret2
        rw [HA.out]
        exact ⟨rfl, Later.refl _⟩
    · have HWB := hid (within_not hb)
      have HA := hid (show chAns a b = none by unfold chAns; rw [if_neg (fun h => hb ⟨h.2.2.1, h.2.2.2.1⟩)])
      clear hb
      go_enter Try.func4, Try.ntmps4
      go_wp2_with fail
      refine (l1In_as _ _ _ _ _ HWA.out).mono ?_
      rintro e w' ⟨rfl, rfl⟩
      go_wp2_with fail
      refine (l1In_as _ _ _ _ _ HWB.out).mono ?_
      rintro e w' ⟨rfl, rfl⟩
      go_wp2_with fail
      go_ret2
      rw [HA.out]
      exact ⟨rfl, Later.refl _⟩
  · have HWA := hid (within_not ha)
    have HA := hid (show chAns a b = none by unfold chAns; rw [if_neg (fun h => ha ⟨h.1, h.2.1⟩)])
    clear ha
    go_enter Try.func4, Try.ntmps4
    go_wp2_with fail
    refine (l1In_as _ _ _ _ _ HWA.out).mono ?_
    rintro e w' ⟨rfl, rfl⟩
    go_wp2_with fail
    go_ret2
    rw [HA.out]
    exact ⟨rfl, Later.refl _⟩

/-- Two texts, as the walk compares them. -/
theorem toList_beq (a b : ByteArray) : (a.toList == b.toList) = decide (a.data.toList = b.data.toList) := by
  rw [Lib.toList_data, Lib.toList_data]
  by_cases h : a.data.toList = b.data.toList
  · rw [h]; simp
  · rw [beq_eq_false_iff_ne.2 h, decide_eq_false h]

theorem letters_le {s : ByteArray} (h : lettersW s.data.toList = true) : s.size ≤ 40 := by
  rw [size_list]; exact ((lettersW_iff _).1 h).2.1

def implGoodW (l : List UInt8) : Bool := lettersW l && goodW l
end Go.Proofs.Ytmmapfdmdliifaa
