/-
  DERIVED. GIVEN WITH THE SEED: THE CARDS: each row of YtmmapfdmdliifaaDoorRows.lean that lists a variable, with what it lists TIED to the program's text (the seventh form; the later family's looks); each row that meets fmt, with fmt's text TOLD by the authors' own Lean function (tested against real Go, not proved from fmt's source: count such statements apart). THE CARD IS WHAT COUNTS. Prove the row's statement (the work); the ties are given (YtmmapfdmdliifaaDoorTie.lean); close each card by the builder's one call (the guide's Derived/Test/ToyasCard.lean, 'card_holds'). Laid BY PROGRAM, IN A SANDBOX (cutbox-door.mjs). By AI agents, Wed Nov 11 2026. No macro, syntax, notation, axiom, sorry.
-/
import Derived.Test.YtmmapfdmdliifaaDoorRows
import GoSem.ClaimSeven
namespace Go.Proofs.YtmmapfdmdliifaaDoor
namespace Rows

/-- THE TIED CARD OF 'laws.FnExactIsLetters'. -/
def fnExactIsLettersCard : Claim7 := { stood := { row := fnExactIsLettersRow, standIns := [], harness := (true, "32d7ade0665fe74e89df0469613ffcf865d3ee05bcf103fdfffb26b3b2413ea1"), looks := false }, kinds := [], alts := [], laidByText := true, laidKinds := [.data, .pinned], laidTests := true, laidLooks := .later }
def FnExactIsLettersCardSaid : Prop := Claim7.holds Tryd.pinned (.plain (OpenSpec.ofChange fnExactIsLettersSpec)) fnExactIsLettersCard

/-- THE TIED CARD OF 'laws.FnExactIsChristoffel'. -/
def fnExactIsChristoffelCard : Claim7 := { stood := { row := fnExactIsChristoffelRow, standIns := [], harness := (true, "32d7ade0665fe74e89df0469613ffcf865d3ee05bcf103fdfffb26b3b2413ea1"), looks := false }, kinds := [], alts := [], laidByText := true, laidKinds := [.data, .pinned], laidTests := true, laidLooks := .later }
def FnExactIsChristoffelCardSaid : Prop := Claim7.holds Tryd.pinned (.plain (OpenSpec.ofChange fnExactIsChristoffelSpec)) fnExactIsChristoffelCard

/-- THE TIED CARD OF 'laws.FnExactCountsOf'. -/
def fnExactCountsOfCard : Claim7 := { stood := { row := fnExactCountsOfRow, standIns := [], harness := (true, "32d7ade0665fe74e89df0469613ffcf865d3ee05bcf103fdfffb26b3b2413ea1"), looks := false }, kinds := [], alts := [], laidByText := true, laidKinds := [.data, .pinned], laidTests := true, laidLooks := .later }
def FnExactCountsOfCardSaid : Prop := Claim7.holds Tryd.pinned (.plain (OpenSpec.ofChange fnExactCountsOfSpec)) fnExactCountsOfCard

/-- THE TIED CARD OF 'laws.FnExactFactorsOf'. -/
def fnExactFactorsOfCard : Claim7 := { stood := { row := fnExactFactorsOfRow, standIns := [], harness := (true, "32d7ade0665fe74e89df0469613ffcf865d3ee05bcf103fdfffb26b3b2413ea1"), looks := false }, kinds := [], alts := [], laidByText := true, laidKinds := [.data, .pinned], laidTests := true, laidLooks := .later }
def FnExactFactorsOfCardSaid : Prop := Claim7.holds Tryd.pinned (.plain (OpenSpec.ofChange fnExactFactorsOfSpec)) fnExactFactorsOfCard

/-- THE TIED CARD OF 'laws.FnExactCentreOf'. -/
def fnExactCentreOfCard : Claim7 := { stood := { row := fnExactCentreOfRow, standIns := [], harness := (true, "32d7ade0665fe74e89df0469613ffcf865d3ee05bcf103fdfffb26b3b2413ea1"), looks := false }, kinds := [], alts := [], laidByText := true, laidKinds := [.data, .pinned], laidTests := true, laidLooks := .later }
def FnExactCentreOfCardSaid : Prop := Claim7.holds Tryd.pinned (.plain (OpenSpec.ofChange fnExactCentreOfSpec)) fnExactCentreOfCard

/-- THE TIED CARD OF 'laws.FnExactTurnsOf'. -/
def fnExactTurnsOfCard : Claim7 := { stood := { row := fnExactTurnsOfRow, standIns := [], harness := (true, "32d7ade0665fe74e89df0469613ffcf865d3ee05bcf103fdfffb26b3b2413ea1"), looks := false }, kinds := [], alts := [], laidByText := true, laidKinds := [.data, .pinned], laidTests := true, laidLooks := .later }
def FnExactTurnsOfCardSaid : Prop := Claim7.holds Tryd.pinned (.plain (OpenSpec.ofChange fnExactTurnsOfSpec)) fnExactTurnsOfCard

/-- THE TIED CARD OF 'laws.FnExactLeastTurn'. -/
def fnExactLeastTurnCard : Claim7 := { stood := { row := fnExactLeastTurnRow, standIns := [], harness := (true, "32d7ade0665fe74e89df0469613ffcf865d3ee05bcf103fdfffb26b3b2413ea1"), looks := false }, kinds := [], alts := [], laidByText := true, laidKinds := [.data, .pinned], laidTests := true, laidLooks := .later }
def FnExactLeastTurnCardSaid : Prop := Claim7.holds Tryd.pinned (.plain (OpenSpec.ofChange fnExactLeastTurnSpec)) fnExactLeastTurnCard

/-- THE TIED CARD OF 'laws.FnExactIsBalanced'. -/
def fnExactIsBalancedCard : Claim7 := { stood := { row := fnExactIsBalancedRow, standIns := [], harness := (true, "32d7ade0665fe74e89df0469613ffcf865d3ee05bcf103fdfffb26b3b2413ea1"), looks := false }, kinds := [], alts := [], laidByText := true, laidKinds := [.data, .pinned], laidTests := true, laidLooks := .later }
def FnExactIsBalancedCardSaid : Prop := Claim7.holds Tryd.pinned (.plain (OpenSpec.ofChange fnExactIsBalancedSpec)) fnExactIsBalancedCard

/-- THE TIED CARD OF 'laws.FnExactCohnMatrix'. -/
def fnExactCohnMatrixCard : Claim7 := { stood := { row := fnExactCohnMatrixRow, standIns := [], harness := (true, "32d7ade0665fe74e89df0469613ffcf865d3ee05bcf103fdfffb26b3b2413ea1"), looks := false }, kinds := [], alts := [], laidByText := true, laidKinds := [.data, .pinned], laidTests := true, laidLooks := .later }
def FnExactCohnMatrixCardSaid : Prop := Claim7.holds Tryd.pinned (.plain (OpenSpec.ofChange fnExactCohnMatrixSpec)) fnExactCohnMatrixCard

/-- THE TIED CARD OF 'laws.FnExactNumberOfWord'. -/
def fnExactNumberOfWordCard : Claim7 := { stood := { row := fnExactNumberOfWordRow, standIns := [], harness := (true, "32d7ade0665fe74e89df0469613ffcf865d3ee05bcf103fdfffb26b3b2413ea1"), looks := false }, kinds := [], alts := [], laidByText := true, laidKinds := [.data, .pinned], laidTests := true, laidLooks := .later }
def FnExactNumberOfWordCardSaid : Prop := Claim7.holds Tryd.pinned (.plain (OpenSpec.ofChange fnExactNumberOfWordSpec)) fnExactNumberOfWordCard

/-- THE SECOND FORM's CARD OF 'laws.FnExactIsLetters'. -/
def fnExactIsLettersUptoCard : Claim7 := { stood := { row := fnExactIsLettersUptoRow, standIns := [], harness := (true, "32d7ade0665fe74e89df0469613ffcf865d3ee05bcf103fdfffb26b3b2413ea1"), looks := false }, kinds := [], alts := [], laidByText := true, laidKinds := [.data, .pinned], laidTests := true, laidLooks := .later }
def FnExactIsLettersUptoCardSaid : Prop := Claim7.holds Tryd.pinned (.plain (OpenSpec.upto fnExactIsLettersSpec)) fnExactIsLettersUptoCard

/-- THE SECOND FORM's CARD OF 'laws.FnExactIsChristoffel'. -/
def fnExactIsChristoffelUptoCard : Claim7 := { stood := { row := fnExactIsChristoffelUptoRow, standIns := [], harness := (true, "32d7ade0665fe74e89df0469613ffcf865d3ee05bcf103fdfffb26b3b2413ea1"), looks := false }, kinds := [], alts := [], laidByText := true, laidKinds := [.data, .pinned], laidTests := true, laidLooks := .later }
def FnExactIsChristoffelUptoCardSaid : Prop := Claim7.holds Tryd.pinned (.plain (OpenSpec.upto fnExactIsChristoffelSpec)) fnExactIsChristoffelUptoCard

/-- THE SECOND FORM's CARD OF 'laws.FnExactCountsOf'. -/
def fnExactCountsOfUptoCard : Claim7 := { stood := { row := fnExactCountsOfUptoRow, standIns := [], harness := (true, "32d7ade0665fe74e89df0469613ffcf865d3ee05bcf103fdfffb26b3b2413ea1"), looks := false }, kinds := [], alts := [], laidByText := true, laidKinds := [.data, .pinned], laidTests := true, laidLooks := .later }
def FnExactCountsOfUptoCardSaid : Prop := Claim7.holds Tryd.pinned (.plain (OpenSpec.upto fnExactCountsOfSpec)) fnExactCountsOfUptoCard

/-- THE SECOND FORM's CARD OF 'laws.FnExactFactorsOf'. -/
def fnExactFactorsOfUptoCard : Claim7 := { stood := { row := fnExactFactorsOfUptoRow, standIns := [], harness := (true, "32d7ade0665fe74e89df0469613ffcf865d3ee05bcf103fdfffb26b3b2413ea1"), looks := false }, kinds := [], alts := [], laidByText := true, laidKinds := [.data, .pinned], laidTests := true, laidLooks := .later }
def FnExactFactorsOfUptoCardSaid : Prop := Claim7.holds Tryd.pinned (.plain (OpenSpec.upto fnExactFactorsOfSpec)) fnExactFactorsOfUptoCard

/-- THE SECOND FORM's CARD OF 'laws.FnExactCentreOf'. -/
def fnExactCentreOfUptoCard : Claim7 := { stood := { row := fnExactCentreOfUptoRow, standIns := [], harness := (true, "32d7ade0665fe74e89df0469613ffcf865d3ee05bcf103fdfffb26b3b2413ea1"), looks := false }, kinds := [], alts := [], laidByText := true, laidKinds := [.data, .pinned], laidTests := true, laidLooks := .later }
def FnExactCentreOfUptoCardSaid : Prop := Claim7.holds Tryd.pinned (.plain (OpenSpec.upto fnExactCentreOfSpec)) fnExactCentreOfUptoCard

/-- THE SECOND FORM's CARD OF 'laws.FnExactTurnsOf'. -/
def fnExactTurnsOfUptoCard : Claim7 := { stood := { row := fnExactTurnsOfUptoRow, standIns := [], harness := (true, "32d7ade0665fe74e89df0469613ffcf865d3ee05bcf103fdfffb26b3b2413ea1"), looks := false }, kinds := [], alts := [], laidByText := true, laidKinds := [.data, .pinned], laidTests := true, laidLooks := .later }
def FnExactTurnsOfUptoCardSaid : Prop := Claim7.holds Tryd.pinned (.plain (OpenSpec.upto fnExactTurnsOfSpec)) fnExactTurnsOfUptoCard

/-- THE SECOND FORM's CARD OF 'laws.FnExactLeastTurn'. -/
def fnExactLeastTurnUptoCard : Claim7 := { stood := { row := fnExactLeastTurnUptoRow, standIns := [], harness := (true, "32d7ade0665fe74e89df0469613ffcf865d3ee05bcf103fdfffb26b3b2413ea1"), looks := false }, kinds := [], alts := [], laidByText := true, laidKinds := [.data, .pinned], laidTests := true, laidLooks := .later }
def FnExactLeastTurnUptoCardSaid : Prop := Claim7.holds Tryd.pinned (.plain (OpenSpec.upto fnExactLeastTurnSpec)) fnExactLeastTurnUptoCard

/-- THE SECOND FORM's CARD OF 'laws.FnExactIsBalanced'. -/
def fnExactIsBalancedUptoCard : Claim7 := { stood := { row := fnExactIsBalancedUptoRow, standIns := [], harness := (true, "32d7ade0665fe74e89df0469613ffcf865d3ee05bcf103fdfffb26b3b2413ea1"), looks := false }, kinds := [], alts := [], laidByText := true, laidKinds := [.data, .pinned], laidTests := true, laidLooks := .later }
def FnExactIsBalancedUptoCardSaid : Prop := Claim7.holds Tryd.pinned (.plain (OpenSpec.upto fnExactIsBalancedSpec)) fnExactIsBalancedUptoCard

/-- THE SECOND FORM's CARD OF 'laws.FnExactCohnMatrix'. -/
def fnExactCohnMatrixUptoCard : Claim7 := { stood := { row := fnExactCohnMatrixUptoRow, standIns := [], harness := (true, "32d7ade0665fe74e89df0469613ffcf865d3ee05bcf103fdfffb26b3b2413ea1"), looks := false }, kinds := [], alts := [], laidByText := true, laidKinds := [.data, .pinned], laidTests := true, laidLooks := .later }
def FnExactCohnMatrixUptoCardSaid : Prop := Claim7.holds Tryd.pinned (.plain (OpenSpec.upto fnExactCohnMatrixSpec)) fnExactCohnMatrixUptoCard

/-- THE SECOND FORM's CARD OF 'laws.FnExactNumberOfWord'. -/
def fnExactNumberOfWordUptoCard : Claim7 := { stood := { row := fnExactNumberOfWordUptoRow, standIns := [], harness := (true, "32d7ade0665fe74e89df0469613ffcf865d3ee05bcf103fdfffb26b3b2413ea1"), looks := false }, kinds := [], alts := [], laidByText := true, laidKinds := [.data, .pinned], laidTests := true, laidLooks := .later }
def FnExactNumberOfWordUptoCardSaid : Prop := Claim7.holds Tryd.pinned (.plain (OpenSpec.upto fnExactNumberOfWordSpec)) fnExactNumberOfWordUptoCard
end Rows
end Go.Proofs.YtmmapfdmdliifaaDoor
