/- A contract of Go's library, laid at this program: the table of numbers and the bodies' comparison. -/
import Derived.Test.YtoaopmafokoaoaaBasA
import Derived.Shelf.SlicesQ.IndexFunc
namespace Go.Proofs.Ytoaopmafokoaoaa
open Go.Shelf
def laysCf8_ren : Go.Shelf.Ren := ⟨fun | 6 => 156 | 8 => 145 | n => n, fun | 22 => 44 | 23 => 103 | 3 => 3 | 0 => 0 | 4 => 4 | 25 => 101 | n => n, fun  | n => n⟩
theorem laysCf8 : SlLaysH0.n8 Try.prog laysCf8_ren := {
  mixed := by kernel_rfl,
  f6 := ⟨ "slices.IndexFunc[[]loop.example/g01122/impl.Circle,loop.example/g01122/impl.Circle]", by decide, Try.func156.trans (congrArg some (by kernel_rfl))⟩,
  f8 := ⟨ "slices.ContainsFunc[[]loop.example/g01122/impl.Circle,loop.example/g01122/impl.Circle]", by decide, Try.func145.trans (congrArg some (by kernel_rfl))⟩,
  t0 := Try.underlying0,
  a0 := Try.isAgg0,
  z0 := Try.sizeOf0,
  v0 := Try.zeroValue0,
  t3 := Try.underlying3,
  a3 := Try.isAgg3,
  z3 := Try.sizeOf3,
  v3 := Try.zeroValue3,
  t4 := Try.underlying4,
  a4 := Try.isAgg4,
  z4 := Try.sizeOf4,
  v4 := Try.zeroValue4,
  t22 := Try.underlying44,
  a22 := Try.isAgg44,
  z22 := Try.sizeOf44,
  v22 := Try.zeroValue44,
  t25 := Try.underlying101,
  a25 := Try.isAgg101,
  z25 := Try.sizeOf101,
  v25 := Try.zeroValue101 }
end Go.Proofs.Ytoaopmafokoaoaa
