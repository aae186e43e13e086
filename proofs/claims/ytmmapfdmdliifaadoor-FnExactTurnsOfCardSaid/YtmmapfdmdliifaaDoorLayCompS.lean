/- A contract of Go's library, laid at this program: the table of numbers and the bodies' comparison. -/
import Derived.Test.YtmmapfdmdliifaaDoorBase
import Derived.Shelf.Slices.CompactS
namespace Go.Proofs.YtmmapfdmdliifaaDoor
open Go.Shelf
def laysLays194_ren : Go.Shelf.Ren := ⟨fun | 194 => 52 | n => n, fun | 31 => 31 | 9 => 9 | 3 => 3 | 4 => 4 | 0 => 0 | n => n, fun  | n => n⟩
theorem laysLays194 : Lays.n194 Tryd.prog laysLays194_ren := {
  mixed := by kernel_rfl,
  f194 := Tryd.func52.trans (congrArg some (by kernel_rfl)),
  t0 := Tryd.underlying0,
  a0 := Tryd.isAgg0,
  z0 := Tryd.sizeOf0,
  v0 := Tryd.zeroValue0,
  t3 := Tryd.underlying3,
  a3 := Tryd.isAgg3,
  z3 := Tryd.sizeOf3,
  v3 := Tryd.zeroValue3,
  t4 := Tryd.underlying4,
  a4 := Tryd.isAgg4,
  z4 := Tryd.sizeOf4,
  v4 := Tryd.zeroValue4,
  t9 := Tryd.underlying9,
  a9 := Tryd.isAgg9,
  z9 := Tryd.sizeOf9,
  v9 := Tryd.zeroValue9,
  t31 := Tryd.underlying31,
  a31 := Tryd.isAgg31,
  z31 := Tryd.sizeOf31,
  v31 := Tryd.zeroValue31 }
end Go.Proofs.YtmmapfdmdliifaaDoor
