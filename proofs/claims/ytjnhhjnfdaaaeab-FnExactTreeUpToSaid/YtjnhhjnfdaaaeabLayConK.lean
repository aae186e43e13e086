/- A contract of Go's library, laid at this program: the table of numbers and the bodies' comparison. -/
import Derived.Test.YtjnhhjnfdaaaeabBase
import Derived.Shelf.SlicesQ.Contains
namespace Go.Proofs.Ytjnhhjnfdaaaeab
open Go.Shelf
def laysSlLaysQ7_ren : Go.Shelf.Ren := ⟨fun | 7 => 42 | 6 => 89 | n => n, fun | 22 => 51 | 24 => 48 | 4 => 4 | 0 => 0 | 3 => 3 | n => n, fun  | n => n⟩
theorem laysSlLaysQ7 : SlLaysQ.n7 Try.prog laysSlLaysQ7_ren := {
  mixed := by kernel_rfl,
  f6 := ⟨ "slices.Index[[]loop.example/g01122/impl.solution,loop.example/g01122/impl.solution]", by decide, Try.func89.trans (congrArg some (by kernel_rfl))⟩,
  f7 := ⟨ "slices.Contains[[]loop.example/g01122/impl.solution,loop.example/g01122/impl.solution]", by decide, Try.func42.trans (congrArg some (by kernel_rfl))⟩,
  t0 := Try.underlying0,
  a0 := Try.isAgg0,
  z0 := Try.sizeOf0,
  v0 := Try.zeroValue0,
  t3 := Try.underlying3,
  a3 := Try.isAgg3,
  z3 := Try.sizeOf3,
  v3 := Try.zeroValue3,
  t4 := Try.underlying4,
  a4 := Try.isAgg4,
  z4 := Try.sizeOf4,
  v4 := Try.zeroValue4,
  t22 := Try.underlying51,
  a22 := Try.isAgg51,
  z22 := Try.sizeOf51,
  v22 := Try.zeroValue51 }
end Go.Proofs.Ytjnhhjnfdaaaeab
