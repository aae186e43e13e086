/- DeterminantOf of the model. -/
import Derived.Test.YtmmapfdmdliifaaGreatDoorDetF
import Derived.Test.YtmmapfdmdliifaaGreatDoorForm
namespace Go.Proofs.YtmmapfdmdliifaaGreatDoor
open Go.RowKit

end Go.Proofs.YtmmapfdmdliifaaGreatDoor
