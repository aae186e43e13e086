/- What a function leaves that answers with numbers or texts. -/
import Derived.Test.YtkpnckcfoigceaaAns3
namespace Go.Proofs.Ytkpnckcfoigceaa
open Go.RowKit

def TwoAns (w : World) (o : Option (Int × Int)) (e : Ending) (w' : World) : Prop := e = .returned (.tuple #[.int .i64 (o.getD (0, 0)).1, .int .i64 (o.getD (0, 0)).2, .bool o.isSome]) ∧ Later w w'
def PairAns (w : World) (o : Option (List UInt8 × List UInt8)) (e : Ending) (w' : World) : Prop := e = .returned (.tuple #[.string ⟨(o.getD ([], [])).1.toArray⟩, .string ⟨(o.getD ([], [])).2.toArray⟩, .bool o.isSome]) ∧ Later w w'
end Go.Proofs.Ytkpnckcfoigceaa
