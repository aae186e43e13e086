/- A contract of Go's library, laid at this program: the table of numbers and the bodies' comparison. -/
import Derived.Test.YtdahhcigphhfdaaBasA
import Derived.Shelf.Slices.CompactI
namespace Go.Proofs.Ytdahhcigphhfdaa
open Go.Shelf
def laysCompI_ren : Go.Shelf.Ren := ⟨fun | 20 => 81 | n => n, fun | 22 => 32 | 3 => 3 | 4 => 4 | 0 => 0 | n => n, fun  | n => n⟩
theorem laysCompI : Lays2.n20 Try.prog laysCompI_ren := {
  mixed := by kernel_rfl,
  f20 := Try.func81.trans (congrArg some (by kernel_rfl)),
  t0 := Try.underlying0,
  a0 := Try.isAgg0,
  z0 := Try.sizeOf0,
  v0 := Try.zeroValue0,
  t3 := Try.underlying3,
  a3 := Try.isAgg3,
  z3 := Try.sizeOf3,
  v3 := Try.zeroValue3,
  t4 := Try.underlying4,
  a4 := Try.isAgg4,
  z4 := Try.sizeOf4,
  v4 := Try.zeroValue4,
  t22 := Try.underlying32,
  a22 := Try.isAgg32,
  z22 := Try.sizeOf32,
  v22 := Try.zeroValue32,
  i3 := by kernel_rfl }
end Go.Proofs.Ytdahhcigphhfdaa
