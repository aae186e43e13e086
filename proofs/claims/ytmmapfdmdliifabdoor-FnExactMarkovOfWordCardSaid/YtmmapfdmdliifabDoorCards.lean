/-
  DERIVED. GIVEN WITH THE SEED: THE CARDS: each row of YtmmapfdmdliifabDoorRows.lean that lists a variable, with what it lists TIED to the program's text (the seventh form; the later family's looks); each row that meets fmt, with fmt's text TOLD by the authors' own Lean function (tested against real Go, not proved from fmt's source: count such statements apart). THE CARD IS WHAT COUNTS. Prove the row's statement (the work); the ties are given (YtmmapfdmdliifabDoorTie.lean); close each card by the builder's one call (the guide's Derived/Test/ToyasCard.lean, 'card_holds'). Laid BY PROGRAM, IN A SANDBOX (cutbox-door.mjs). By AI agents, Wed Nov 11 2026. No macro, syntax, notation, axiom, sorry.
-/
import Derived.Test.YtmmapfdmdliifabDoorRows
import GoSem.ClaimSeven
namespace Go.Proofs.YtmmapfdmdliifabDoor
namespace Rows

/-- THE TIED CARD OF 'laws.FnExactNeighbourWords'. -/
def fnExactNeighbourWordsCard : Claim7 := { stood := { row := fnExactNeighbourWordsRow, standIns := [], harness := (true, "74fad021c9ecfecbeeb6ee1d64ceaf1dd45a53eda2985c59841d38f14cb0701e"), looks := false }, kinds := [], alts := [], laidByText := true, laidKinds := [.data, .pinned], laidTests := true, laidLooks := .later }
def FnExactNeighbourWordsCardSaid : Prop := Claim7.holds Tryd.pinned (.plain (OpenSpec.ofChange fnExactNeighbourWordsSpec)) fnExactNeighbourWordsCard

/-- THE TIED CARD OF 'laws.FnExactMirrorWord'. -/
def fnExactMirrorWordCard : Claim7 := { stood := { row := fnExactMirrorWordRow, standIns := [], harness := (true, "74fad021c9ecfecbeeb6ee1d64ceaf1dd45a53eda2985c59841d38f14cb0701e"), looks := false }, kinds := [], alts := [], laidByText := true, laidKinds := [.data, .pinned], laidTests := true, laidLooks := .later }
def FnExactMirrorWordCardSaid : Prop := Claim7.holds Tryd.pinned (.plain (OpenSpec.ofChange fnExactMirrorWordSpec)) fnExactMirrorWordCard

/-- THE TIED CARD OF 'laws.FnExactMarkovOfWord'. -/
def fnExactMarkovOfWordCard : Claim7 := { stood := { row := fnExactMarkovOfWordRow, standIns := [], harness := (true, "74fad021c9ecfecbeeb6ee1d64ceaf1dd45a53eda2985c59841d38f14cb0701e"), looks := false }, kinds := [], alts := [], laidByText := true, laidKinds := [.data, .pinned], laidTests := true, laidLooks := .later }
def FnExactMarkovOfWordCardSaid : Prop := Claim7.holds Tryd.pinned (.plain (OpenSpec.ofChange fnExactMarkovOfWordSpec)) fnExactMarkovOfWordCard

/-- THE SECOND FORM's CARD OF 'laws.FnExactNeighbourWords'. -/
def fnExactNeighbourWordsUptoCard : Claim7 := { stood := { row := fnExactNeighbourWordsUptoRow, standIns := [], harness := (true, "74fad021c9ecfecbeeb6ee1d64ceaf1dd45a53eda2985c59841d38f14cb0701e"), looks := false }, kinds := [], alts := [], laidByText := true, laidKinds := [.data, .pinned], laidTests := true, laidLooks := .later }
def FnExactNeighbourWordsUptoCardSaid : Prop := Claim7.holds Tryd.pinned (.plain (OpenSpec.upto fnExactNeighbourWordsSpec)) fnExactNeighbourWordsUptoCard

/-- THE SECOND FORM's CARD OF 'laws.FnExactMirrorWord'. -/
def fnExactMirrorWordUptoCard : Claim7 := { stood := { row := fnExactMirrorWordUptoRow, standIns := [], harness := (true, "74fad021c9ecfecbeeb6ee1d64ceaf1dd45a53eda2985c59841d38f14cb0701e"), looks := false }, kinds := [], alts := [], laidByText := true, laidKinds := [.data, .pinned], laidTests := true, laidLooks := .later }
def FnExactMirrorWordUptoCardSaid : Prop := Claim7.holds Tryd.pinned (.plain (OpenSpec.upto fnExactMirrorWordSpec)) fnExactMirrorWordUptoCard

/-- THE SECOND FORM's CARD OF 'laws.FnExactMarkovOfWord'. -/
def fnExactMarkovOfWordUptoCard : Claim7 := { stood := { row := fnExactMarkovOfWordUptoRow, standIns := [], harness := (true, "74fad021c9ecfecbeeb6ee1d64ceaf1dd45a53eda2985c59841d38f14cb0701e"), looks := false }, kinds := [], alts := [], laidByText := true, laidKinds := [.data, .pinned], laidTests := true, laidLooks := .later }
def FnExactMarkovOfWordUptoCardSaid : Prop := Claim7.holds Tryd.pinned (.plain (OpenSpec.upto fnExactMarkovOfWordSpec)) fnExactMarkovOfWordUptoCard
end Rows
end Go.Proofs.YtmmapfdmdliifabDoor
