/- Triples modulo a prime number: solvesModulo (the program), mkMod (the model). -/
import Derived.Test.YtdahhcigphhfdabMkC
namespace Go.Proofs.Ytdahhcigphhfdab
open Go.RowKit

def diff3 (x y z : Int) : Int := x * x + y * y + z * z - 3 * x * y * z
def modT (p x y z : Int) : Bool := !(x == 0 && (y == 0 && z == 0)) && ((diff3 x y z).tmod p == 0)
def modGood (p : Int) (zs : List Int) : Bool := decide (zs.length = 3) && zs.all (within 0 (p - 1)) && modT p (zs.getD 0 0) (zs.getD 1 0) (zs.getD 2 0)
theorem modGood3 (p x y z : Int) : modGood p [x, y, z] = ([x, y, z].all (within 0 (p - 1)) && modT p x y z) := by simp [modGood]
def Sm (x : Int) : Prop := 0 ≤ x ∧ x ≤ 12
theorem mul_sm {x y a b : Int} (hx : 0 ≤ x ∧ x ≤ a) (hy : 0 ≤ y ∧ y ≤ b) : 0 ≤ x * y ∧ x * y ≤ a * b :=
  ⟨Int.mul_nonneg hx.1 hy.1, Int.mul_le_mul hx.2 hy.2 hy.1 (by omega)⟩

theorem sum_zero {x y z : Int} (hx : 0 ≤ x) (hy : 0 ≤ y) (hz : 0 ≤ z) : (x + y + z == 0) = (x == 0 && (y == 0 && z == 0)) := by
  rw [Bool.eq_iff_iff]; simp only [beq_iff_eq, Bool.and_eq_true]; omega

end Go.Proofs.Ytdahhcigphhfdab
