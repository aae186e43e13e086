/- A contract of Go's library, laid at this program: the table of numbers and the bodies' comparison. -/
import Derived.Test.YtljikcajfmnnmabBase
import Derived.Shelf.SlicesE.Clone
namespace Go.Proofs.Ytljikcajfmnnmab
open Go.Shelf
def laysCl41_ren : Go.Shelf.Ren := ⟨fun | 41 => 53 | n => n, fun | 22 => 22 | 23 => 50 | 4 => 4 | 3 => 3 | 0 => 0 | n => n, fun  | n => n⟩
theorem laysCl41 : SlLaysE0.n41 Try.prog laysCl41_ren := {
  mixed := by kernel_rfl,
  f41 := ⟨ "slices.Clone[[]loop.example/g01122/impl.Circle,loop.example/g01122/impl.Circle]", by decide, Try.func53.trans (congrArg some (by kernel_rfl))⟩,
  t4 := Try.underlying4,
  a4 := Try.isAgg4,
  z4 := Try.sizeOf4,
  v4 := Try.zeroValue4,
  t22 := Try.underlying22,
  a22 := Try.isAgg22,
  z22 := Try.sizeOf22,
  v22 := Try.zeroValue22 }
end Go.Proofs.Ytljikcajfmnnmab
