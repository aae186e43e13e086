/- A number within an int's bounds is wrapped to itself. -/
import Derived.Test.YtoaopmafokoaoaaBasA
import Derived.IntWalk
namespace Go.Proofs.Ytoaopmafokoaoaa
open Go.RowKit

theorem wrapQ {q : Int} (h : -9223372036854775808 ≤ q ∧ q ≤ 9223372036854775807) : IntKind.i64.wrap q = q := by
  rw [IntWalk.i64_left]; exact IntWalk.wrap64_in _ h
end Go.Proofs.Ytoaopmafokoaoaa
