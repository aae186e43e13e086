/- Contracts of UnitMatrix in the model and in the program, and of matrixOf. -/
import Derived.Test.YtpkdikfjcbmcbacUnit
namespace Go.Proofs.Ytpkdikfjcbmcbac
open Go.RowKit

theorem gridOf_pure (n : Nat) (F : Nat) (caps : Array Value) (f : Nat → Nat → Int) (w : World) (hn : n ≤ 1048576)
    (eg : ∀ args w, (callFunc F args).run Try.prog w = .ok (.enter F args) w)
    (hF : ∀ i j w1, i < n → j < n → Later w w1 → Calls Try.prog F (#[.int .i64 i, .int .i64 j] ++ caps) w1 fun e w2 => e = .returned (.int .i64 (f i j)) ∧ Later w1 w2) :
    Calls Try.prog 17 #[.int .i64 n, .func (.func F) #[] caps] w fun e w' => MadeRows w (mk n f) e w' := by
  refine (gridOf_any n F caps f (fun _ w1 => Later w w1) w hn eg (Later.refl w) (fun _ w1 w2 h1 h2 => Below.trans h1 h2) (fun i j w1 hi hj hJ hs => (hF i j w1 hi hj hJ).mono fun e w2 ⟨he, hL⟩ => ⟨he, hJ.trans hL, hL.upper _⟩)).mono ?_
  rintro e w' ⟨v, rfl, ho, hL⟩
  exact ⟨v, rfl, ho, hL⟩

/-- what matrixOf makes of a grid -/
def ifGood (zss : List (List Int)) : Option (List (List Int)) := if goodM 1000000 zss then some zss else none
def PickMat (w : World) (v : Value) (zss : List (List Int)) (e : Ending) (w' : World) : Prop :=
  e = .returned (.tuple #[.agg #[if goodM 1000000 zss then v else .slice none 0 0], .bool (goodM 1000000 zss)]) ∧ Later w w'

def unitAns (n : Int) : Option (List (List Int)) := if 1 ≤ n ∧ n ≤ 4 then some (unitM n.toNat) else none
theorem unitAns_good (n : Nat) (h1 : 1 ≤ n) (h2 : n ≤ 4) : ifGood (unitM n) = some (unitM n) := by
  unfold ifGood
  rw [if_pos]
  have : n = 1 ∨ n = 2 ∨ n = 3 ∨ n = 4 := by omega
  rcases this with rfl | rfl | rfl | rfl <;> decide

end Go.Proofs.Ytpkdikfjcbmcbac
