/- LayIdxK, LayRevK: in one text. -/
import Derived.Test.YtoaopmafokoaoaaBasA
import Derived.Shelf.SlicesQ.Index
import Derived.Shelf.SlicesQ.Reverse
namespace Go.Proofs.Ytoaopmafokoaoaa
open Go.RowKit

open Go.Shelf
def laysSlLaysQ6_ren : Go.Shelf.Ren := ⟨fun | 6 => 105 | n => n, fun | 22 => 72 | 24 => 69 | 3 => 3 | 0 => 0 | 4 => 4 | n => n, fun  | n => n⟩
theorem laysSlLaysQ6 : SlLaysQ.n6 Try.prog laysSlLaysQ6_ren := {
  mixed := by kernel_rfl,
  f6 := ⟨ "slices.Index[[]loop.example/g01122/impl.solution,loop.example/g01122/impl.solution]", by decide, Try.func105.trans (congrArg some (by kernel_rfl))⟩,
  t0 := Try.underlying0,
  a0 := Try.isAgg0,
  z0 := Try.sizeOf0,
  v0 := Try.zeroValue0,
  t3 := Try.underlying3,
  a3 := Try.isAgg3,
  z3 := Try.sizeOf3,
  v3 := Try.zeroValue3,
  t4 := Try.underlying4,
  a4 := Try.isAgg4,
  z4 := Try.sizeOf4,
  v4 := Try.zeroValue4,
  t22 := Try.underlying72,
  a22 := Try.isAgg72,
  z22 := Try.sizeOf72,
  v22 := Try.zeroValue72 }

open Go.Shelf
end Go.Proofs.Ytoaopmafokoaoaa
