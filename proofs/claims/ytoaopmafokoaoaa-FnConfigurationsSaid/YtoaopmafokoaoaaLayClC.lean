/- A contract of Go's library, laid at this program: the table of numbers and the bodies' comparison. -/
import Derived.Test.YtoaopmafokoaoaaBasA
import Derived.Shelf.SlicesE.Clone
namespace Go.Proofs.Ytoaopmafokoaoaa
open Go.Shelf
def laysCl41_ren : Go.Shelf.Ren := ⟨fun | 41 => 90 | n => n, fun | 22 => 44 | 23 => 103 | 4 => 4 | 3 => 3 | 0 => 0 | n => n, fun  | n => n⟩
theorem laysCl41 : SlLaysE0.n41 Try.prog laysCl41_ren := {
  mixed := by kernel_rfl,
  f41 := ⟨ "slices.Clone[[]loop.example/g01122/impl.Circle,loop.example/g01122/impl.Circle]", by decide, Try.func90.trans (congrArg some (by kernel_rfl))⟩,
  t4 := Try.underlying4,
  a4 := Try.isAgg4,
  z4 := Try.sizeOf4,
  v4 := Try.zeroValue4,
  t22 := Try.underlying44,
  a22 := Try.isAgg44,
  z22 := Try.sizeOf44,
  v22 := Try.zeroValue44 }
end Go.Proofs.Ytoaopmafokoaoaa
