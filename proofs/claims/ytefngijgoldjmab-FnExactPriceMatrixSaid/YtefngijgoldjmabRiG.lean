/- Right triples in the program: children of triples. -/
import Derived.Test.YtefngijgoldjmabRiM
import Derived.Deep.RegionHeld3
namespace Go.Proofs.Ytefngijgoldjmab
open Go.RowKit

theorem isChild_any (k : Int) (w : World) : Calls Try.prog 88 #[.int .i64 k] w fun e w' => e = .returned (.bool (within 0 2 k)) ∧ w = w' := by
  by_cases h1 : 0 ≤ k
  · have hb1 : decide (0 ≤ k) = true := decide_eq_true h1
    by_cases h2 : k < 3
    · have HW := hid (show within 0 2 k = true by unfold within; simp; omega)
      rw [HW.out]
      go_enter Try.func88, Try.ntmps88
      go_wp2_with fail
      go_ret
      exact ⟨rfl, rfl⟩
    · have HW := hid (show within 0 2 k = false by unfold within; simp only [Bool.and_eq_false_iff, decide_eq_false_iff_not]; omega)
      rw [HW.out]
      go_enter Try.func88, Try.ntmps88
      go_wp2_with fail
      go_ret
      first | exact ⟨rfl, rfl⟩ | exact ⟨ret_bool (decide_eq_false h2), rfl⟩
  · have HW := hid (show within 0 2 k = false by unfold within; simp only [Bool.and_eq_false_iff, decide_eq_false_iff_not]; omega)
    rw [HW.out]
    go_enter Try.func88, Try.ntmps88
    go_wp2_with fail
    go_ret
    exact ⟨rfl, rfl⟩
theorem isChild_as (k : Int) (b : Bool) (w : World) (h : within 0 2 k = b) : Calls Try.prog 88 #[.int .i64 k] w fun e w' => e = .returned (.bool b) ∧ w = w' := by subst h; exact isChild_any k w
theorem tripV_formG (m n : Int) : ∃ a ok, tripV m n = .tuple #[a, .bool ok] := by
  unfold tripV
  split
  · exact ⟨_, _, rfl⟩
  · exact ⟨_, _, rfl⟩

end Go.Proofs.Ytefngijgoldjmab
