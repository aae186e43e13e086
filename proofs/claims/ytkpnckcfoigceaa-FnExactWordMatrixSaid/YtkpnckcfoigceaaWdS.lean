/- Letters and their counts: the model's functions, and the program's over the library's Trim and Count. -/
import Derived.Test.YtkpnckcfoigceaaWd
import Derived.Test.YtkpnckcfoigceaaAns4
import Derived.Test.YtkpnckcfoigceaaLayTrim
import Derived.Test.YtkpnckcfoigceaaLayCount
import Derived.WalkLawsBesides
namespace Go.Proofs.Ytkpnckcfoigceaa
open Go.RowKit

theorem size_list (s : ByteArray) : s.size = s.data.toList.length := by cases s; rfl
theorem byte_at (s : ByteArray) (k : Nat) (h : k < s.size) : s.data.toList[k]? = some (s[k]'h) := by
  have h2 : k < s.data.toList.length := by rw [← size_list]; exact h
  rw [List.getElem?_eq_getElem h2]
  rfl
theorem byte_take (s : ByteArray) (k : Nat) (h : k < s.size) : s.data.toList.take (k + 1) = s.data.toList.take k ++ [s[k]'h] := by
  rw [List.take_add_one, byte_at s k h]; rfl
theorem u8_eq {c : UInt8} {n : Nat} (h : c.toNat = n) : c = UInt8.ofNat n := by subst h; exact (UInt8.ofNat_toNat).symm
theorem u8_iff (c : UInt8) (n : Nat) (hn : n < 256) : (((c.toNat : Nat) : Int) == (n : Int)) = (c == UInt8.ofNat n) := by
  by_cases h : c.toNat = n
  · have := u8_eq h
    rw [this] at h ⊢
    simp [h]
  · have h2 : c ≠ UInt8.ofNat n := fun e => h (by rw [e]; simp [Nat.mod_eq_of_lt hn])
    have h3 : ¬ ((c.toNat : Nat) : Int) = (n : Int) := by omega
    rw [beq_eq_false_iff_ne.2 h2, beq_eq_false_iff_ne.2 h3]
theorem all_in_1_40 (s : ByteArray) : within 1 40 (s.size : Int) = true ↔ 1 ≤ s.data.toList.length ∧ s.data.toList.length ≤ 40 := by
  rw [← size_list]; simp only [within, Bool.and_eq_true, decide_eq_true_eq]; omega
theorem lettersW_not {l : List UInt8} (h : ¬ (1 ≤ l.length ∧ l.length ≤ 40)) : lettersW l = false := by
  cases e : lettersW l
  · rfl
  · have := (lettersW_iff l).1 e
    exact (h ⟨this.1, this.2.1⟩).elim

end Go.Proofs.Ytkpnckcfoigceaa
