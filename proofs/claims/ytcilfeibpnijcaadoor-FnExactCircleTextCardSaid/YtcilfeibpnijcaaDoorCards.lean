/-
  DERIVED. GIVEN WITH THE SEED: THE CARDS: each row of YtcilfeibpnijcaaDoorRows.lean that lists a variable, with what it lists TIED to the program's text (the seventh form; the later family's looks); each row that meets fmt, with fmt's text TOLD by the authors' own Lean function (tested against real Go, not proved from fmt's source: count such statements apart). THE CARD IS WHAT COUNTS. Prove the row's statement (the work); the ties are given (YtcilfeibpnijcaaDoorTie.lean); close each card by the builder's one call (the guide's Derived/Test/ToyasCard.lean, 'card_holds'). Laid BY PROGRAM, IN A SANDBOX (cutbox-door.mjs). By AI agents, Wed Nov 11 2026. No macro, syntax, notation, axiom, sorry.
-/
import Derived.Test.YtcilfeibpnijcaaDoorRows
import GoSem.ClaimSeven
namespace Go.Proofs.YtcilfeibpnijcaaDoor
namespace Rows

/-- THE TIED CARD OF 'laws.FnExactCircleText'. -/
def fnExactCircleTextCard : Claim7 := { stood := { row := fnExactCircleTextRow, standIns := [], harness := (true, "cf71655ca340b3a54c8c1f3474a0dddd1e5d1d0acfbbb6ab0385d074856d3cb0"), looks := false }, kinds := [], alts := [], laidByText := true, laidKinds := [.data, .data, .data], laidTests := true, laidLooks := .later }
def FnExactCircleTextCardSaid : Prop := Claim7.holds Tryd.pinned (.plain (OpenSpec.ofChange fnExactCircleTextSpec)) fnExactCircleTextCard

/-- THE SECOND FORM's CARD OF 'laws.FnExactCircleText'. -/
def fnExactCircleTextUptoCard : Claim7 := { stood := { row := fnExactCircleTextUptoRow, standIns := [], harness := (true, "cf71655ca340b3a54c8c1f3474a0dddd1e5d1d0acfbbb6ab0385d074856d3cb0"), looks := false }, kinds := [], alts := [], laidByText := true, laidKinds := [.data, .data, .data], laidTests := true, laidLooks := .later }
def FnExactCircleTextUptoCardSaid : Prop := Claim7.holds Tryd.pinned (.plain (OpenSpec.upto fnExactCircleTextSpec)) fnExactCircleTextUptoCard
end Rows
end Go.Proofs.YtcilfeibpnijcaaDoor
