/-
  DERIVED. GIVEN WITH THE SEED: THE CARDS: each row of YtmmapfdmdliifaaGreatDoorRows.lean that lists a variable, with what it lists TIED to the program's text (the seventh form; the later family's looks); each row that meets fmt, with fmt's text TOLD by the authors' own Lean function (tested against real Go, not proved from fmt's source: count such statements apart). THE CARD IS WHAT COUNTS. Prove the row's statement (the work); the ties are given (YtmmapfdmdliifaaGreatDoorTie.lean); close each card by the builder's one call (the guide's Derived/Test/ToyasCard.lean, 'card_holds'). Laid BY PROGRAM, IN A SANDBOX (cutbox-door.mjs). By AI agents, Wed Nov 11 2026. No macro, syntax, notation, axiom, sorry.
-/
import Derived.Test.YtmmapfdmdliifaaGreatDoorRows
import GoSem.ClaimSeven
namespace Go.Proofs.YtmmapfdmdliifaaGreatDoor
namespace Rows

/-- THE TIED CARD OF 'laws.FnExactTripleOfWord'. -/
def fnExactTripleOfWordCard : Claim7 := { stood := { row := fnExactTripleOfWordRow, standIns := [], harness := (true, "18605f7d3c032299d33fbf9d37ad8006480f41f5b0136b2315981383a5b378de"), looks := false }, kinds := [], alts := [], laidByText := true, laidKinds := [.data, .pinned], laidTests := true, laidLooks := .later }
def FnExactTripleOfWordCardSaid : Prop := Claim7.holds Tryz.pinned (.plain (OpenSpec.ofChange fnExactTripleOfWordSpec)) fnExactTripleOfWordCard

/-- THE SECOND FORM's CARD OF 'laws.FnExactTripleOfWord'. -/
def fnExactTripleOfWordUptoCard : Claim7 := { stood := { row := fnExactTripleOfWordUptoRow, standIns := [], harness := (true, "18605f7d3c032299d33fbf9d37ad8006480f41f5b0136b2315981383a5b378de"), looks := false }, kinds := [], alts := [], laidByText := true, laidKinds := [.data, .pinned], laidTests := true, laidLooks := .later }
def FnExactTripleOfWordUptoCardSaid : Prop := Claim7.holds Tryz.pinned (.plain (OpenSpec.upto fnExactTripleOfWordSpec)) fnExactTripleOfWordUptoCard
end Rows
end Go.Proofs.YtmmapfdmdliifaaGreatDoor
