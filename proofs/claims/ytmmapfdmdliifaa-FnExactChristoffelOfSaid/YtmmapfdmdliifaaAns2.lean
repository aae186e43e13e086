/- What a function leaves that answers with a slice of slices of ints. -/
import Derived.Test.YtmmapfdmdliifaaAns
namespace Go.Proofs.Ytmmapfdmdliifaa
open Go.RowKit

end Go.Proofs.Ytmmapfdmdliifaa
