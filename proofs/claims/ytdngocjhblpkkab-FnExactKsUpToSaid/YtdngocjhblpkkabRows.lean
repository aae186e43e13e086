/-
  No cell of these rows narrows 'for every input' (looked for: loops, veiled, ifaces, maps, wideKeys, modest, calm, conditions, laid).
  DERIVED. THE GIVEN ROWS OF THIS SEAT. 7 by the template 'for every input the law returns true; each argument reads behind the call as it read before'; 0 by the template 'total and deterministic' (their statements: YtdngocjhblpkkabTotals.lean).
  GIVEN WITH THE SEED: the statements are not yours to turn. If you find one false, say at which input.
  Laid BY PROGRAM, IN A SANDBOX (cutbox-rows.mjs): the forced cells as the released guide's own fill.sh prints them over the translation 9187014e6e821433… (all of the seat's roots in one cut). By AI agents, Wed Nov 11 2026. No macro, syntax, notation, axiom, sorry.
-/
import Derived.Test.YtdngocjhblpkkabChecked
import GoSem.Claim
import GoSem.ClaimJoined
import GoSem.ClaimMapViews
import Derived.JoinedTies
import Derived.KernelRfl
namespace Go.Proofs.Ytdngocjhblpkkab
/- THE CELL 'sum', in the pinned program and in every row, IS THE sha256 OF THE DUMP (.gsa) THAT YtdngocjhblpkkabProg.lean LOADS. Nothing in Lean hashes anything: it is a label: what it is worth is what the hold of that sum in a sandbox is worth. -/
noncomputable def Try.pinned : Pinned := { name := "ytdngocjhblpkkab", sum := "9187014e6e821433dcd8d3df980be36d3fd822ee436ef3c0236c6d68452d0449", checked := Try.checked }
namespace Rows
def none {H : Type} : Left H := { results := [], args := [] }

/-- 'laws.FnExactDescendPair': WHATEVER THE INPUT: true; the input reads as it did. -/
def fnExactDescendPairSpec : ChangeSpec := { name := "fnExactDescendPair", fn := fun _ => fun
  | [d1, d2, d3, d4] => { results := [.lit (.bool true)], args := [d1, d2, d3, d4] }
  | _ => none }
def fnExactDescendPairRow : OpenClaim := { program := "ytdngocjhblpkkab", sum := "9187014e6e821433dcd8d3df980be36d3fd822ee436ef3c0236c6d68452d0449", func := "loop.example/g01122/laws.FnExactDescendPair", spec := "fnExactDescendPair", unfollowed := true, recurses := true, apart := false }
def FnExactDescendPairSaid : Prop := fnExactDescendPairRow.holds Try.pinned (OpenSpec.ofChange fnExactDescendPairSpec)

/-- ITS FALSE NEIGHBOUR: 'it returns false'. Refute it at one input. -/
def fnExactDescendPairWrong : ChangeSpec := { name := "fnExactDescendPair", fn := fun _ => fun
  | [d1, d2, d3, d4] => { results := [.lit (.bool false)], args := [d1, d2, d3, d4] }
  | _ => none }
def FnExactDescendPairWrongFalsely : Prop := fnExactDescendPairRow.holds Try.pinned (OpenSpec.ofChange fnExactDescendPairWrong)

/-- 'laws.FnExactAscendPair': WHATEVER THE INPUT: true; the input reads as it did. -/
def fnExactAscendPairSpec : ChangeSpec := { name := "fnExactAscendPair", fn := fun _ => fun
  | [d1, d2, d3, d4, d5] => { results := [.lit (.bool true)], args := [d1, d2, d3, d4, d5] }
  | _ => none }
def fnExactAscendPairRow : OpenClaim := { program := "ytdngocjhblpkkab", sum := "9187014e6e821433dcd8d3df980be36d3fd822ee436ef3c0236c6d68452d0449", func := "loop.example/g01122/laws.FnExactAscendPair", spec := "fnExactAscendPair", unfollowed := true, recurses := true, apart := false }
def FnExactAscendPairSaid : Prop := fnExactAscendPairRow.holds Try.pinned (OpenSpec.ofChange fnExactAscendPairSpec)

/-- ITS FALSE NEIGHBOUR: 'it returns false'. Refute it at one input. -/
def fnExactAscendPairWrong : ChangeSpec := { name := "fnExactAscendPair", fn := fun _ => fun
  | [d1, d2, d3, d4, d5] => { results := [.lit (.bool false)], args := [d1, d2, d3, d4, d5] }
  | _ => none }
def FnExactAscendPairWrongFalsely : Prop := fnExactAscendPairRow.holds Try.pinned (OpenSpec.ofChange fnExactAscendPairWrong)

/-- 'laws.FnExactQuotientRun': WHATEVER THE INPUT: true; the input reads as it did. -/
def fnExactQuotientRunSpec : ChangeSpec := { name := "fnExactQuotientRun", fn := fun _ => fun
  | [d1, d2] => { results := [.lit (.bool true)], args := [d1, d2] }
  | _ => none }
def fnExactQuotientRunRow : OpenClaim := { program := "ytdngocjhblpkkab", sum := "9187014e6e821433dcd8d3df980be36d3fd822ee436ef3c0236c6d68452d0449", func := "loop.example/g01122/laws.FnExactQuotientRun", spec := "fnExactQuotientRun", unfollowed := true, recurses := true, apart := false }
def FnExactQuotientRunSaid : Prop := fnExactQuotientRunRow.holds Try.pinned (OpenSpec.ofChange fnExactQuotientRunSpec)

/-- ITS FALSE NEIGHBOUR: 'it returns false'. Refute it at one input. -/
def fnExactQuotientRunWrong : ChangeSpec := { name := "fnExactQuotientRun", fn := fun _ => fun
  | [d1, d2] => { results := [.lit (.bool false)], args := [d1, d2] }
  | _ => none }
def FnExactQuotientRunWrongFalsely : Prop := fnExactQuotientRunRow.holds Try.pinned (OpenSpec.ofChange fnExactQuotientRunWrong)

/-- 'laws.FnExactQuotientPairs': WHATEVER THE INPUT: true; the input reads as it did. -/
def fnExactQuotientPairsSpec : ChangeSpec := { name := "fnExactQuotientPairs", fn := fun _ => fun
  | [d1, d2] => { results := [.lit (.bool true)], args := [d1, d2] }
  | _ => none }
def fnExactQuotientPairsRow : OpenClaim := { program := "ytdngocjhblpkkab", sum := "9187014e6e821433dcd8d3df980be36d3fd822ee436ef3c0236c6d68452d0449", func := "loop.example/g01122/laws.FnExactQuotientPairs", spec := "fnExactQuotientPairs", unfollowed := true, recurses := true, apart := false }
def FnExactQuotientPairsSaid : Prop := fnExactQuotientPairsRow.holds Try.pinned (OpenSpec.ofChange fnExactQuotientPairsSpec)

/-- ITS FALSE NEIGHBOUR: 'it returns false'. Refute it at one input. -/
def fnExactQuotientPairsWrong : ChangeSpec := { name := "fnExactQuotientPairs", fn := fun _ => fun
  | [d1, d2] => { results := [.lit (.bool false)], args := [d1, d2] }
  | _ => none }
def FnExactQuotientPairsWrongFalsely : Prop := fnExactQuotientPairsRow.holds Try.pinned (OpenSpec.ofChange fnExactQuotientPairsWrong)

/-- 'laws.FnExactPairsUpTo': WHATEVER THE INPUT: true; the input reads as it did. -/
def fnExactPairsUpToSpec : ChangeSpec := { name := "fnExactPairsUpTo", fn := fun _ => fun
  | [d1, d2, d3] => { results := [.lit (.bool true)], args := [d1, d2, d3] }
  | _ => none }
def fnExactPairsUpToRow : OpenClaim := { program := "ytdngocjhblpkkab", sum := "9187014e6e821433dcd8d3df980be36d3fd822ee436ef3c0236c6d68452d0449", func := "loop.example/g01122/laws.FnExactPairsUpTo", spec := "fnExactPairsUpTo", unfollowed := true, recurses := true, apart := false }
def FnExactPairsUpToSaid : Prop := fnExactPairsUpToRow.holds Try.pinned (OpenSpec.ofChange fnExactPairsUpToSpec)

/-- ITS FALSE NEIGHBOUR: 'it returns false'. Refute it at one input. -/
def fnExactPairsUpToWrong : ChangeSpec := { name := "fnExactPairsUpTo", fn := fun _ => fun
  | [d1, d2, d3] => { results := [.lit (.bool false)], args := [d1, d2, d3] }
  | _ => none }
def FnExactPairsUpToWrongFalsely : Prop := fnExactPairsUpToRow.holds Try.pinned (OpenSpec.ofChange fnExactPairsUpToWrong)

/-- 'laws.FnExactClassesUpTo': WHATEVER THE INPUT: true; the input reads as it did. -/
def fnExactClassesUpToSpec : ChangeSpec := { name := "fnExactClassesUpTo", fn := fun _ => fun
  | [d1, d2, d3] => { results := [.lit (.bool true)], args := [d1, d2, d3] }
  | _ => none }
def fnExactClassesUpToRow : OpenClaim := { program := "ytdngocjhblpkkab", sum := "9187014e6e821433dcd8d3df980be36d3fd822ee436ef3c0236c6d68452d0449", func := "loop.example/g01122/laws.FnExactClassesUpTo", spec := "fnExactClassesUpTo", unfollowed := true, recurses := true, apart := false }
def FnExactClassesUpToSaid : Prop := fnExactClassesUpToRow.holds Try.pinned (OpenSpec.ofChange fnExactClassesUpToSpec)

/-- ITS FALSE NEIGHBOUR: 'it returns false'. Refute it at one input. -/
def fnExactClassesUpToWrong : ChangeSpec := { name := "fnExactClassesUpTo", fn := fun _ => fun
  | [d1, d2, d3] => { results := [.lit (.bool false)], args := [d1, d2, d3] }
  | _ => none }
def FnExactClassesUpToWrongFalsely : Prop := fnExactClassesUpToRow.holds Try.pinned (OpenSpec.ofChange fnExactClassesUpToWrong)

/-- 'laws.FnExactKsUpTo': WHATEVER THE INPUT: true; the input reads as it did. -/
def fnExactKsUpToSpec : ChangeSpec := { name := "fnExactKsUpTo", fn := fun _ => fun
  | [d1, d2] => { results := [.lit (.bool true)], args := [d1, d2] }
  | _ => none }
def fnExactKsUpToRow : OpenClaim := { program := "ytdngocjhblpkkab", sum := "9187014e6e821433dcd8d3df980be36d3fd822ee436ef3c0236c6d68452d0449", func := "loop.example/g01122/laws.FnExactKsUpTo", spec := "fnExactKsUpTo", unfollowed := true, recurses := true, apart := false }
def FnExactKsUpToSaid : Prop := fnExactKsUpToRow.holds Try.pinned (OpenSpec.ofChange fnExactKsUpToSpec)

/-- ITS FALSE NEIGHBOUR: 'it returns false'. Refute it at one input. -/
def fnExactKsUpToWrong : ChangeSpec := { name := "fnExactKsUpTo", fn := fun _ => fun
  | [d1, d2] => { results := [.lit (.bool false)], args := [d1, d2] }
  | _ => none }
def FnExactKsUpToWrongFalsely : Prop := fnExactKsUpToRow.holds Try.pinned (OpenSpec.ofChange fnExactKsUpToWrong)

/- THE SECOND FORM. 'bulk': how many values and letters a reading holds, each counted each time it is reached (what is shared counts as often as it is met; a slice's spare places count too). A statement '..UptoSaid' is the law's where the arguments, and the package variables that the reading takes, are together of bulk at most 1048576: NARROWER than '..Said'. Prove '..Said' where nothing that the law and all that it calls make is longer than what came in: it says more and counts as full. Else prove '..UptoSaid'. A law counts once. -/
mutual
def uptoBulk {H : Type} : DataW H → Nat
  | .lit (.string bytes) => bytes.length + 1
  | .lit _ => 1
  | .nil => 1
  | .ptr d => uptoBulk d + 1
  | .slice elems spare => uptoBulkAll elems + uptoBulkAll spare + 1
  | .agg parts => uptoBulkAll parts + 1
  | .iface _ d => uptoBulk d + 1
  | .map entries => uptoBulkEntries entries + 1
  | .held _ => 1
def uptoBulkAll {H : Type} : List (DataW H) → Nat
  | [] => 0
  | d :: r => uptoBulk d + uptoBulkAll r
def uptoBulkEntries {H : Type} : List (Lit × DataW H) → Nat
  | [] => 0
  | x :: r => uptoBulkEntry x + uptoBulkEntries r
def uptoBulkEntry {H : Type} : Lit × DataW H → Nat
  | (.string bytes, d) => bytes.length + uptoBulk d + 1
  | (_, d) => uptoBulk d + 1
 end
def uptoSmall : (H : Type) → List (DataW H) → Bool := fun _ ds => decide (uptoBulkAll ds ≤ 1048576)
def OpenSpec.upto (s : _root_.Go.ChangeSpec) : _root_.Go.OpenSpec := { _root_.Go.OpenSpec.ofChange s with cond := some uptoSmall }

/-- 'laws.FnExactDescendPair', WHERE WHAT IT READS IS OF BULK AT MOST 1048576: true; the input reads as it did. -/
def fnExactDescendPairUptoRow : OpenClaim := { program := "ytdngocjhblpkkab", sum := "9187014e6e821433dcd8d3df980be36d3fd822ee436ef3c0236c6d68452d0449", func := "loop.example/g01122/laws.FnExactDescendPair", spec := "fnExactDescendPair", unfollowed := true, recurses := true, apart := false, narrowed := true }
def FnExactDescendPairUptoSaid : Prop := fnExactDescendPairUptoRow.holds Try.pinned (OpenSpec.upto fnExactDescendPairSpec)

/-- 'laws.FnExactAscendPair', WHERE WHAT IT READS IS OF BULK AT MOST 1048576: true; the input reads as it did. -/
def fnExactAscendPairUptoRow : OpenClaim := { program := "ytdngocjhblpkkab", sum := "9187014e6e821433dcd8d3df980be36d3fd822ee436ef3c0236c6d68452d0449", func := "loop.example/g01122/laws.FnExactAscendPair", spec := "fnExactAscendPair", unfollowed := true, recurses := true, apart := false, narrowed := true }
def FnExactAscendPairUptoSaid : Prop := fnExactAscendPairUptoRow.holds Try.pinned (OpenSpec.upto fnExactAscendPairSpec)

/-- 'laws.FnExactQuotientRun', WHERE WHAT IT READS IS OF BULK AT MOST 1048576: true; the input reads as it did. -/
def fnExactQuotientRunUptoRow : OpenClaim := { program := "ytdngocjhblpkkab", sum := "9187014e6e821433dcd8d3df980be36d3fd822ee436ef3c0236c6d68452d0449", func := "loop.example/g01122/laws.FnExactQuotientRun", spec := "fnExactQuotientRun", unfollowed := true, recurses := true, apart := false, narrowed := true }
def FnExactQuotientRunUptoSaid : Prop := fnExactQuotientRunUptoRow.holds Try.pinned (OpenSpec.upto fnExactQuotientRunSpec)

/-- 'laws.FnExactQuotientPairs', WHERE WHAT IT READS IS OF BULK AT MOST 1048576: true; the input reads as it did. -/
def fnExactQuotientPairsUptoRow : OpenClaim := { program := "ytdngocjhblpkkab", sum := "9187014e6e821433dcd8d3df980be36d3fd822ee436ef3c0236c6d68452d0449", func := "loop.example/g01122/laws.FnExactQuotientPairs", spec := "fnExactQuotientPairs", unfollowed := true, recurses := true, apart := false, narrowed := true }
def FnExactQuotientPairsUptoSaid : Prop := fnExactQuotientPairsUptoRow.holds Try.pinned (OpenSpec.upto fnExactQuotientPairsSpec)

/-- 'laws.FnExactPairsUpTo', WHERE WHAT IT READS IS OF BULK AT MOST 1048576: true; the input reads as it did. -/
def fnExactPairsUpToUptoRow : OpenClaim := { program := "ytdngocjhblpkkab", sum := "9187014e6e821433dcd8d3df980be36d3fd822ee436ef3c0236c6d68452d0449", func := "loop.example/g01122/laws.FnExactPairsUpTo", spec := "fnExactPairsUpTo", unfollowed := true, recurses := true, apart := false, narrowed := true }
def FnExactPairsUpToUptoSaid : Prop := fnExactPairsUpToUptoRow.holds Try.pinned (OpenSpec.upto fnExactPairsUpToSpec)

/-- 'laws.FnExactClassesUpTo', WHERE WHAT IT READS IS OF BULK AT MOST 1048576: true; the input reads as it did. -/
def fnExactClassesUpToUptoRow : OpenClaim := { program := "ytdngocjhblpkkab", sum := "9187014e6e821433dcd8d3df980be36d3fd822ee436ef3c0236c6d68452d0449", func := "loop.example/g01122/laws.FnExactClassesUpTo", spec := "fnExactClassesUpTo", unfollowed := true, recurses := true, apart := false, narrowed := true }
def FnExactClassesUpToUptoSaid : Prop := fnExactClassesUpToUptoRow.holds Try.pinned (OpenSpec.upto fnExactClassesUpToSpec)

/-- 'laws.FnExactKsUpTo', WHERE WHAT IT READS IS OF BULK AT MOST 1048576: true; the input reads as it did. -/
def fnExactKsUpToUptoRow : OpenClaim := { program := "ytdngocjhblpkkab", sum := "9187014e6e821433dcd8d3df980be36d3fd822ee436ef3c0236c6d68452d0449", func := "loop.example/g01122/laws.FnExactKsUpTo", spec := "fnExactKsUpTo", unfollowed := true, recurses := true, apart := false, narrowed := true }
def FnExactKsUpToUptoSaid : Prop := fnExactKsUpToUptoRow.holds Try.pinned (OpenSpec.upto fnExactKsUpToSpec)

end Rows
end Go.Proofs.Ytdngocjhblpkkab
