/- Answers of one number or one bool, as the big laws read them. -/
import Derived.Test.YtoaopmafokoaoaaCuAB
import Derived.Test.YtoaopmafokoaoaaBasB
namespace Go.Proofs.Ytoaopmafokoaoaa
open Go.RowKit

theorem num_as9 {w0 : World} {fn : FuncId} {args : Array Value} {o : Option Int} {z : Int} {t : Bool} (h : Calls Try.prog fn args w0 fun e w' => NumAns w0 o e w') (hL : o.getD 0 = z) (ht : o.isSome = t) :
    Calls Try.prog fn args w0 fun e w' => e = .returned (.tuple #[.int .i64 z, .bool t]) ∧ Later w0 w' :=
  h.mono fun e w' ⟨he, hl⟩ => ⟨by rw [he, hL, ht], hl⟩
theorem bool_as9 {w0 : World} {fn : FuncId} {args : Array Value} {o : Option Bool} {z : Bool} {t : Bool} (h : Calls Try.prog fn args w0 fun e w' => BoolAns w0 o e w') (hL : o.getD false = z) (ht : o.isSome = t) :
    Calls Try.prog fn args w0 fun e w' => e = .returned (.tuple #[.bool z, .bool t]) ∧ Later w0 w' :=
  h.mono fun e w' ⟨he, hl⟩ => ⟨by rw [he, hL, ht], hl⟩
end Go.Proofs.Ytoaopmafokoaoaa
