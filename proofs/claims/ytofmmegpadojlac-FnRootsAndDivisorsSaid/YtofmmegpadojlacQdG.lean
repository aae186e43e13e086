/- Four curvatures: the greatest common divisor of four numbers, in any order of brackets. -/
import Derived.Test.YtofmmegpadojlacQd
import Derived.Test.YtofmmegpadojlacRoot
namespace Go.Proofs.Ytofmmegpadojlac
open Go.RowKit

theorem gcdF_gcd (k : Nat) : ∀ a b : Int, b.natAbs < k → gcdF k a b = (Nat.gcd a.natAbs b.natAbs : Nat) := by
  induction k with
  | zero => intro a b h; omega
  | succ k ih =>
    intro a b h
    unfold gcdF
    split
    · rename_i hb
      subst hb
      simp only [Int.natAbs_zero, Nat.gcd_zero_right]
      unfold maxI; split <;> omega
    · rename_i hb
      have h1 := tmod_lt a b hb
      rw [ih b _ (by omega), Int.natAbs_tmod, Nat.gcd_comm, Nat.gcd_comm a.natAbs, ← Nat.gcd_rec]
theorem gcdW_gcd (a b : Int) : gcdW a b = (Nat.gcd a.natAbs b.natAbs : Nat) := gcdF_gcd _ a b (by omega)
theorem scale_eq (a b c d : Int) : gcdW (gcdW a b) (gcdW c d) = gcdL [a, b, c, d] := by
  simp only [gcdL, List.foldl_cons, List.foldl_nil]
  simp only [gcdW_gcd, Int.natAbs_natCast, Int.natAbs_zero, Nat.gcd_zero_left]
  simp only [Nat.gcd_assoc]
def scaleAns (zs : List Int) : Option Int := if apB zs = true then some (gcdL zs) else none
end Go.Proofs.Ytofmmegpadojlac
