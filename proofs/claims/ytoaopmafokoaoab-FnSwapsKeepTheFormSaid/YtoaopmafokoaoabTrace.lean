/- Contracts of TraceOf. -/
import Derived.Test.YtoaopmafokoaoabSqTr
namespace Go.Proofs.Ytoaopmafokoaoab
open Go.RowKit

def traceW (m : List (List Int)) : Int := wsum (fun i => ent m i i) m.length
def traceAns (m : List (List Int)) : Option Int := whenGood 1000000 m (traceW m)

end Go.Proofs.Ytoaopmafokoaoab
