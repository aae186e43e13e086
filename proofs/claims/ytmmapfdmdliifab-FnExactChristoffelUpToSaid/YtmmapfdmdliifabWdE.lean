/- ChristoffelOf in the model; whether letters are a Christoffel word, in both. -/
import Derived.Test.YtmmapfdmdliifabWdD
import Derived.Test.YtmmapfdmdliifabWdI
namespace Go.Proofs.Ytmmapfdmdliifab
open Go.RowKit

theorem gcd_pos {a b : Nat} (h : gcdW (a : Int) (b : Int) = 1) : 1 ≤ a + b := by
  rcases Nat.eq_zero_or_pos (a + b) with h0 | h0
  · obtain rfl : a = 0 := by omega
    obtain rfl : b = 0 := by omega
    have := gcd_zero
    rw [show ((0 : Nat) : Int) = 0 from rfl, this] at h
    omega
  · exact h0
theorem foGcd_at (a b : Int) (w : World) (ha : Mid a) (hb : Mid b) : Calls Try.prog 45 #[.int .i64 a, .int .i64 b] w fun e w' => e = .returned (.int .i64 (gcdW a b)) ∧ w = w' :=
  foGcd_any (b.natAbs + 1) a b w (by omega) ha hb

/-- Two texts, as the walk compares them. -/
theorem toList_beq (a b : ByteArray) : (a.toList == b.toList) = decide (a.data.toList = b.data.toList) := by
  rw [Lib.toList_data, Lib.toList_data]
  by_cases h : a.data.toList = b.data.toList
  · rw [h]; simp
  · rw [beq_eq_false_iff_ne.2 h, decide_eq_false h]

theorem letters_le {s : ByteArray} (h : lettersW s.data.toList = true) : s.size ≤ 40 := by
  rw [size_list]; exact ((lettersW_iff _).1 h).2.1

def implGoodW (l : List UInt8) : Bool := lettersW l && goodW l
end Go.Proofs.Ytmmapfdmdliifab
