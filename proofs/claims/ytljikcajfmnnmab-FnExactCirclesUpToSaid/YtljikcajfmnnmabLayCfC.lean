/- A contract of Go's library, laid at this program: the table of numbers and the bodies' comparison. -/
import Derived.Test.YtljikcajfmnnmabBase
import Derived.Shelf.SlicesQ.IndexFunc
namespace Go.Proofs.Ytljikcajfmnnmab
open Go.Shelf
def laysCf8_ren : Go.Shelf.Ren := ⟨fun | 6 => 71 | 8 => 60 | n => n, fun | 22 => 22 | 23 => 50 | 3 => 3 | 0 => 0 | 4 => 4 | 25 => 52 | n => n, fun  | n => n⟩
theorem laysCf8 : SlLaysH0.n8 Try.prog laysCf8_ren := {
  mixed := by kernel_rfl,
  f6 := ⟨ "slices.IndexFunc[[]loop.example/g01122/impl.Circle,loop.example/g01122/impl.Circle]", by decide, Try.func71.trans (congrArg some (by kernel_rfl))⟩,
  f8 := ⟨ "slices.ContainsFunc[[]loop.example/g01122/impl.Circle,loop.example/g01122/impl.Circle]", by decide, Try.func60.trans (congrArg some (by kernel_rfl))⟩,
  t0 := Try.underlying0,
  a0 := Try.isAgg0,
  z0 := Try.sizeOf0,
  v0 := Try.zeroValue0,
  t3 := Try.underlying3,
  a3 := Try.isAgg3,
  z3 := Try.sizeOf3,
  v3 := Try.zeroValue3,
  t4 := Try.underlying4,
  a4 := Try.isAgg4,
  z4 := Try.sizeOf4,
  v4 := Try.zeroValue4,
  t22 := Try.underlying22,
  a22 := Try.isAgg22,
  z22 := Try.sizeOf22,
  v22 := Try.zeroValue22,
  t25 := Try.underlying52,
  a25 := Try.isAgg52,
  z25 := Try.sizeOf52,
  v25 := Try.zeroValue52 }
end Go.Proofs.Ytljikcajfmnnmab
