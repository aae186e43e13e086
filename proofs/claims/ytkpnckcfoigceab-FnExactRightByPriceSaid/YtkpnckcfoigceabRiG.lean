/- Right triples in the program: children of triples. -/
import Derived.Test.YtkpnckcfoigceabRiM
import Derived.Deep.RegionHeld3
namespace Go.Proofs.Ytkpnckcfoigceab
open Go.RowKit

theorem tripV_formG (m n : Int) : ∃ a ok, tripV m n = .tuple #[a, .bool ok] := by
  unfold tripV
  split
  · exact ⟨_, _, rfl⟩
  · exact ⟨_, _, rfl⟩

end Go.Proofs.Ytkpnckcfoigceab
