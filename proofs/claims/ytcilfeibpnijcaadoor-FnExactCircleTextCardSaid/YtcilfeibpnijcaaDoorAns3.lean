/- What a function leaves that answers with a string. -/
import Derived.Test.YtcilfeibpnijcaaDoorBasB
namespace Go.Proofs.YtcilfeibpnijcaaDoor
open Go.RowKit

def StrAns (w : World) (o : Option (List UInt8)) (e : Ending) (w' : World) : Prop := e = .returned (.tuple #[.string ⟨(o.getD []).toArray⟩, .bool o.isSome]) ∧ Later w w'
end Go.Proofs.YtcilfeibpnijcaaDoor
