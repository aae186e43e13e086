/- Prime numbers: what the model's and the program's checks answer. -/
import Derived.Test.YtcgdegmhajfbaabSqD
import Derived.Test.YtcgdegmhajfbaabMkR
namespace Go.Proofs.Ytcgdegmhajfbaab
open Go.RowKit

theorem tmodN (m k : Nat) : (m : Int).tmod (k : Int) = ((m % k : Nat) : Int) := by
  rw [Int.tmod_eq_emod_of_nonneg (by omega)]; exact (Int.natCast_emod m k).symm
theorem tdivN (m k : Nat) : (m : Int).tdiv (k : Int) = ((m / k : Nat) : Int) := by
  rw [Int.tdiv_eq_ediv_of_nonneg (by omega)]; exact (Int.natCast_ediv m k).symm
theorem sq_in {k m : Nat} (h : k * k ≤ m) (hm : m ≤ 1000000) : k ≤ 1000 := by
  refine Nat.not_lt.1 fun hk => ?_
  have := Nat.mul_le_mul (show 1001 ≤ k from hk) (show 1001 ≤ k from hk)
  omega
def primI (n : Int) : Bool := Sq.primB n.toNat
theorem primI_small {n : Int} (h : n < 2) : primI n = false := Sq.primB_small (by omega)

end Go.Proofs.Ytcgdegmhajfbaab
