/- A contract of Go's library, laid at this program: the table of numbers and the bodies' comparison. -/
import Derived.Test.YtdahhcigphhfdacBasA
import Derived.Shelf.Slices.Reverse
namespace Go.Proofs.Ytdahhcigphhfdac
open Go.Shelf
def laysLays112_ren : Go.Shelf.Ren := ⟨fun | 112 => 105 | n => n, fun | 28 => 26 | 3 => 3 | 4 => 4 | 0 => 0 | n => n, fun  | n => n⟩
theorem laysLays112 : Lays.n112 Try.prog laysLays112_ren := {
  mixed := by kernel_rfl,
  f112 := Try.func105.trans (congrArg some (by kernel_rfl)),
  t0 := Try.underlying0,
  a0 := Try.isAgg0,
  z0 := Try.sizeOf0,
  v0 := Try.zeroValue0,
  t3 := Try.underlying3,
  a3 := Try.isAgg3,
  z3 := Try.sizeOf3,
  v3 := Try.zeroValue3,
  t4 := Try.underlying4,
  a4 := Try.isAgg4,
  z4 := Try.sizeOf4,
  v4 := Try.zeroValue4,
  t28 := Try.underlying26,
  a28 := Try.isAgg26,
  z28 := Try.sizeOf26,
  v28 := Try.zeroValue26 }
end Go.Proofs.Ytdahhcigphhfdac
