/- A contract of Go's library, laid at this program: the table of numbers and the bodies' comparison. -/
import Derived.Test.YtmmapfdmdliifabDoorBase
import Derived.Shelf.Pu.Clone
namespace Go.Proofs.YtmmapfdmdliifabDoor
open Go.Shelf
def laysLaysPu25_ren : Go.Shelf.Ren := ⟨fun | 25 => 42 | n => n, fun | 9 => 9 | 3 => 3 | 4 => 4 | 37 => 49 | 0 => 0 | 47 => 70 | 5 => 5 | n => n, fun  | n => n⟩
theorem laysLaysPu25 : LaysPu.n25 Tryd.prog laysLaysPu25_ren := {
  mixed := by kernel_rfl,
  f25 := Tryd.func42.trans (congrArg some (by kernel_rfl)),
  t0 := Tryd.underlying0,
  a0 := Tryd.isAgg0,
  z0 := Tryd.sizeOf0,
  v0 := Tryd.zeroValue0,
  i0 := by kernel_rfl,
  t3 := Tryd.underlying3,
  a3 := Tryd.isAgg3,
  z3 := Tryd.sizeOf3,
  v3 := Tryd.zeroValue3,
  i3 := by kernel_rfl,
  t4 := Tryd.underlying4,
  a4 := Tryd.isAgg4,
  z4 := Tryd.sizeOf4,
  v4 := Tryd.zeroValue4,
  i4 := by kernel_rfl,
  t5 := Tryd.underlying5,
  a5 := Tryd.isAgg5,
  z5 := Tryd.sizeOf5,
  v5 := Tryd.zeroValue5,
  i5 := by kernel_rfl,
  t9 := Tryd.underlying9,
  a9 := Tryd.isAgg9,
  z9 := Tryd.sizeOf9,
  v9 := Tryd.zeroValue9,
  i9 := by kernel_rfl,
  t37 := Tryd.underlying49,
  a37 := Tryd.isAgg49,
  z37 := Tryd.sizeOf49,
  v37 := Tryd.zeroValue49,
  i37 := by kernel_rfl,
  t47 := Tryd.underlying70,
  a47 := Tryd.isAgg70,
  z47 := Tryd.sizeOf70,
  v47 := Tryd.zeroValue70,
  i47 := by kernel_rfl }
end Go.Proofs.YtmmapfdmdliifabDoor
