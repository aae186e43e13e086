/- Equations behind an interface; pairs that solve one. -/
import Derived.Test.YtdngocjhblpkkacJpA
import Derived.Deep.RegionHeld3
import Derived.Deep.DeepCutAuto
namespace Go.Proofs.Ytdngocjhblpkkac
open Go.RowKit

/-- What is asked of a value behind the interface: its method's function, what solves it. -/
structure EqS (T : TypeId) (m : Value) (Ks : FuncId) (S : Int → Int → Bool) : Prop where
  ms : ∀ (n : Nat) (w0 : World), (method (n + 1) T m "loop.example/g01122/impl.isSolvedBy").run Try.prog w0 = .ok (Ks, m) w0
  es : ∀ (args : Array Value) (w0 : World), (callFunc Ks args).run Try.prog w0 = .ok (.enter Ks args) w0
  cs : ∀ (x y : Int) (w0 : World), juN x y = true → Calls Try.prog Ks #[m, .agg #[.int .i64 x, .int .i64 y]] w0 fun e w' => BoolRes w0 (S x y) e w'
/-- And the factor of its other root. -/
structure EqJ (T : TypeId) (m : Value) (Ks Ko : FuncId) (S : Int → Int → Bool) (k : Int) : Prop where
  s : EqS T m Ks S
  mo : ∀ (n : Nat) (w0 : World), (method (n + 1) T m "loop.example/g01122/impl.otherRoot").run Try.prog w0 = .ok (Ko, m) w0
  eo : ∀ (args : Array Value) (w0 : World), (callFunc Ko args).run Try.prog w0 = .ok (.enter Ko args) w0
  co : ∀ (x y : Int) (w0 : World), 0 ≤ x ∧ x ≤ 1000000 → 0 ≤ y ∧ y ≤ 1000000 → Calls Try.prog Ko #[m, .int .i64 x, .int .i64 y] w0 fun e w' => e = .returned (.int .i64 (k * y - x)) ∧ Later w0 w'

def prodS (k c : Int) : Int → Int → Bool := fun x y => juW k c && juS x y k c
end Go.Proofs.Ytdngocjhblpkkac
