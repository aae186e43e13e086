/- A contract of Go's library, laid at this program: the table of numbers and the bodies' comparison. -/
import Derived.Test.YtdahhcigphhfdadBasA
import Derived.Shelf.SlicesQ.Index
namespace Go.Proofs.Ytdahhcigphhfdad
open Go.Shelf
def laysSlLaysQ6_ren : Go.Shelf.Ren := ⟨fun | 6 => 46 | n => n, fun | 22 => 55 | 24 => 49 | 3 => 3 | 0 => 0 | 4 => 4 | n => n, fun  | n => n⟩
theorem laysSlLaysQ6 : SlLaysQ.n6 Try.prog laysSlLaysQ6_ren := {
  mixed := by kernel_rfl,
  f6 := ⟨ "slices.Index[[]loop.example/g01122/impl.solution,loop.example/g01122/impl.solution]", by decide, Try.func46.trans (congrArg some (by kernel_rfl))⟩,
  t0 := Try.underlying0,
  a0 := Try.isAgg0,
  z0 := Try.sizeOf0,
  v0 := Try.zeroValue0,
  t3 := Try.underlying3,
  a3 := Try.isAgg3,
  z3 := Try.sizeOf3,
  v3 := Try.zeroValue3,
  t4 := Try.underlying4,
  a4 := Try.isAgg4,
  z4 := Try.sizeOf4,
  v4 := Try.zeroValue4,
  t22 := Try.underlying55,
  a22 := Try.isAgg55,
  z22 := Try.sizeOf55,
  v22 := Try.zeroValue55 }
end Go.Proofs.Ytdahhcigphhfdad
