/-
  No cell of these rows narrows 'for every input' (looked for: loops, veiled, ifaces, maps, wideKeys, modest, calm, conditions, laid).
  DERIVED. THE GIVEN ROWS OF THIS SEAT. 3 by the template 'for every input the law returns true; each argument reads behind the call as it read before'; 0 by the template 'total and deterministic' (their statements: YthejafejmbpepaaTotals.lean).
  GIVEN WITH THE SEED: the statements are not yours to turn. If you find one false, say at which input.
  Laid BY PROGRAM, IN A SANDBOX (cutbox-rows.mjs): the forced cells as the released guide's own fill.sh prints them over the translation 4aa8644025cf8c32… (all of the seat's roots in one cut). By AI agents, Wed Nov 11 2026. No macro, syntax, notation, axiom, sorry.
-/
import Derived.Test.YthejafejmbpepaaChecked
import GoSem.Claim
import GoSem.ClaimJoined
import GoSem.ClaimMapViews
import Derived.JoinedTies
import Derived.KernelRfl
namespace Go.Proofs.Ythejafejmbpepaa
/- THE CELL 'sum', in the pinned program and in every row, IS THE sha256 OF THE DUMP (.gsa) THAT YthejafejmbpepaaProg.lean LOADS. Nothing in Lean hashes anything: it is a label: what it is worth is what the hold of that sum in a sandbox is worth. -/
noncomputable def Try.pinned : Pinned := { name := "ythejafejmbpepaa", sum := "4aa8644025cf8c32a2adc224c4de8c95ac4d8417a47144e9801ef63c09e571a5", checked := Try.checked }
namespace Rows
def none {H : Type} : Left H := { results := [], args := [] }

/-- 'laws.FnJumpsOfPairs': WHATEVER THE INPUT: true; the input reads as it did. -/
def fnJumpsOfPairsSpec : ChangeSpec := { name := "fnJumpsOfPairs", fn := fun _ => fun
  | [d1, d2] => { results := [.lit (.bool true)], args := [d1, d2] }
  | _ => none }
def fnJumpsOfPairsRow : OpenClaim := { program := "ythejafejmbpepaa", sum := "4aa8644025cf8c32a2adc224c4de8c95ac4d8417a47144e9801ef63c09e571a5", func := "loop.example/g01122/laws.FnJumpsOfPairs", spec := "fnJumpsOfPairs", unfollowed := true, recurses := true, apart := false }
def FnJumpsOfPairsSaid : Prop := fnJumpsOfPairsRow.holds Try.pinned (OpenSpec.ofChange fnJumpsOfPairsSpec)

/-- ITS FALSE NEIGHBOUR: 'it returns false'. Refute it at one input. -/
def fnJumpsOfPairsWrong : ChangeSpec := { name := "fnJumpsOfPairs", fn := fun _ => fun
  | [d1, d2] => { results := [.lit (.bool false)], args := [d1, d2] }
  | _ => none }
def FnJumpsOfPairsWrongFalsely : Prop := fnJumpsOfPairsRow.holds Try.pinned (OpenSpec.ofChange fnJumpsOfPairsWrong)

/-- 'laws.FnRunsOfPairs': WHATEVER THE INPUT: true; the input reads as it did. -/
def fnRunsOfPairsSpec : ChangeSpec := { name := "fnRunsOfPairs", fn := fun _ => fun
  | [d1, d2] => { results := [.lit (.bool true)], args := [d1, d2] }
  | _ => none }
def fnRunsOfPairsRow : OpenClaim := { program := "ythejafejmbpepaa", sum := "4aa8644025cf8c32a2adc224c4de8c95ac4d8417a47144e9801ef63c09e571a5", func := "loop.example/g01122/laws.FnRunsOfPairs", spec := "fnRunsOfPairs", unfollowed := true, recurses := true, apart := false }
def FnRunsOfPairsSaid : Prop := fnRunsOfPairsRow.holds Try.pinned (OpenSpec.ofChange fnRunsOfPairsSpec)

/-- ITS FALSE NEIGHBOUR: 'it returns false'. Refute it at one input. -/
def fnRunsOfPairsWrong : ChangeSpec := { name := "fnRunsOfPairs", fn := fun _ => fun
  | [d1, d2] => { results := [.lit (.bool false)], args := [d1, d2] }
  | _ => none }
def FnRunsOfPairsWrongFalsely : Prop := fnRunsOfPairsRow.holds Try.pinned (OpenSpec.ofChange fnRunsOfPairsWrong)

/-- 'laws.FnClassesOfPairs': WHATEVER THE INPUT: true; the input reads as it did. -/
def fnClassesOfPairsSpec : ChangeSpec := { name := "fnClassesOfPairs", fn := fun _ => fun
  | [d1, d2] => { results := [.lit (.bool true)], args := [d1, d2] }
  | _ => none }
def fnClassesOfPairsRow : OpenClaim := { program := "ythejafejmbpepaa", sum := "4aa8644025cf8c32a2adc224c4de8c95ac4d8417a47144e9801ef63c09e571a5", func := "loop.example/g01122/laws.FnClassesOfPairs", spec := "fnClassesOfPairs", unfollowed := true, recurses := true, apart := false }
def FnClassesOfPairsSaid : Prop := fnClassesOfPairsRow.holds Try.pinned (OpenSpec.ofChange fnClassesOfPairsSpec)

/-- ITS FALSE NEIGHBOUR: 'it returns false'. Refute it at one input. -/
def fnClassesOfPairsWrong : ChangeSpec := { name := "fnClassesOfPairs", fn := fun _ => fun
  | [d1, d2] => { results := [.lit (.bool false)], args := [d1, d2] }
  | _ => none }
def FnClassesOfPairsWrongFalsely : Prop := fnClassesOfPairsRow.holds Try.pinned (OpenSpec.ofChange fnClassesOfPairsWrong)

/- THE SECOND FORM. 'bulk': how many values and letters a reading holds, each counted each time it is reached (what is shared counts as often as it is met; a slice's spare places count too). A statement '..UptoSaid' is the law's where the arguments, and the package variables that the reading takes, are together of bulk at most 1048576: NARROWER than '..Said'. Prove '..Said' where nothing that the law and all that it calls make is longer than what came in: it says more and counts as full. Else prove '..UptoSaid'. A law counts once. -/
mutual
def uptoBulk {H : Type} : DataW H → Nat
  | .lit (.string bytes) => bytes.length + 1
  | .lit _ => 1
  | .nil => 1
  | .ptr d => uptoBulk d + 1
  | .slice elems spare => uptoBulkAll elems + uptoBulkAll spare + 1
  | .agg parts => uptoBulkAll parts + 1
  | .iface _ d => uptoBulk d + 1
  | .map entries => uptoBulkEntries entries + 1
  | .held _ => 1
def uptoBulkAll {H : Type} : List (DataW H) → Nat
  | [] => 0
  | d :: r => uptoBulk d + uptoBulkAll r
def uptoBulkEntries {H : Type} : List (Lit × DataW H) → Nat
  | [] => 0
  | x :: r => uptoBulkEntry x + uptoBulkEntries r
def uptoBulkEntry {H : Type} : Lit × DataW H → Nat
  | (.string bytes, d) => bytes.length + uptoBulk d + 1
  | (_, d) => uptoBulk d + 1
 end
def uptoSmall : (H : Type) → List (DataW H) → Bool := fun _ ds => decide (uptoBulkAll ds ≤ 1048576)
def OpenSpec.upto (s : _root_.Go.ChangeSpec) : _root_.Go.OpenSpec := { _root_.Go.OpenSpec.ofChange s with cond := some uptoSmall }

/-- 'laws.FnJumpsOfPairs', WHERE WHAT IT READS IS OF BULK AT MOST 1048576: true; the input reads as it did. -/
def fnJumpsOfPairsUptoRow : OpenClaim := { program := "ythejafejmbpepaa", sum := "4aa8644025cf8c32a2adc224c4de8c95ac4d8417a47144e9801ef63c09e571a5", func := "loop.example/g01122/laws.FnJumpsOfPairs", spec := "fnJumpsOfPairs", unfollowed := true, recurses := true, apart := false, narrowed := true }
def FnJumpsOfPairsUptoSaid : Prop := fnJumpsOfPairsUptoRow.holds Try.pinned (OpenSpec.upto fnJumpsOfPairsSpec)

/-- 'laws.FnRunsOfPairs', WHERE WHAT IT READS IS OF BULK AT MOST 1048576: true; the input reads as it did. -/
def fnRunsOfPairsUptoRow : OpenClaim := { program := "ythejafejmbpepaa", sum := "4aa8644025cf8c32a2adc224c4de8c95ac4d8417a47144e9801ef63c09e571a5", func := "loop.example/g01122/laws.FnRunsOfPairs", spec := "fnRunsOfPairs", unfollowed := true, recurses := true, apart := false, narrowed := true }
def FnRunsOfPairsUptoSaid : Prop := fnRunsOfPairsUptoRow.holds Try.pinned (OpenSpec.upto fnRunsOfPairsSpec)

/-- 'laws.FnClassesOfPairs', WHERE WHAT IT READS IS OF BULK AT MOST 1048576: true; the input reads as it did. -/
def fnClassesOfPairsUptoRow : OpenClaim := { program := "ythejafejmbpepaa", sum := "4aa8644025cf8c32a2adc224c4de8c95ac4d8417a47144e9801ef63c09e571a5", func := "loop.example/g01122/laws.FnClassesOfPairs", spec := "fnClassesOfPairs", unfollowed := true, recurses := true, apart := false, narrowed := true }
def FnClassesOfPairsUptoSaid : Prop := fnClassesOfPairsUptoRow.holds Try.pinned (OpenSpec.upto fnClassesOfPairsSpec)

end Rows
end Go.Proofs.Ythejafejmbpepaa
