/- Equations of Hurwitz: the way down (the model). -/
import Derived.Test.YtoaopmafokoaoaaHuUVW
import Derived.Test.YtoaopmafokoaoaaRowsKI
namespace Go.Proofs.Ytoaopmafokoaoaa
open Go.RowKit

def wayAns (zs : List Int) (a b : Int) : Option (List (List Int)) := if (givenB a b && solB zs a b) = true then some (wayL a zs) else none
def fundLAns (zs : List Int) (a b : Int) : Option (List Int) := if (givenB a b && solB zs a b) = true then some ((wayL a zs).getD ((wayL a zs).length - 1) []) else none
end Go.Proofs.Ytoaopmafokoaoaa
