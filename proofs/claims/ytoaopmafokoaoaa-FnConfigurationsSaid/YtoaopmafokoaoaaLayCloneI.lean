/- A contract of Go's library, laid at this program: the table of numbers and the bodies' comparison. -/
import Derived.Test.YtoaopmafokoaoaaBasA
import Derived.Shelf.Slices.Clone
namespace Go.Proofs.Ytoaopmafokoaoaa
open Go.Shelf
def laysLays215_ren : Go.Shelf.Ren := ⟨fun | 15 => 119 | n => n, fun | 22 => 24 | 3 => 3 | 4 => 4 | n => n, fun  | n => n⟩
theorem laysLays215 : Lays2.n15 Try.prog laysLays215_ren := {
  mixed := by kernel_rfl,
  f15 := Try.func119.trans (congrArg some (by kernel_rfl)),
  t3 := Try.underlying3,
  a3 := Try.isAgg3,
  z3 := Try.sizeOf3,
  v3 := Try.zeroValue3,
  t4 := Try.underlying4,
  a4 := Try.isAgg4,
  z4 := Try.sizeOf4,
  v4 := Try.zeroValue4,
  t22 := Try.underlying24,
  a22 := Try.isAgg24,
  z22 := Try.sizeOf24,
  v22 := Try.zeroValue24,
  i3 := by kernel_rfl }
end Go.Proofs.Ytoaopmafokoaoaa
