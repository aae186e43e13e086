/-
  No cell of these rows narrows 'for every input' (looked for: loops, veiled, ifaces, maps, wideKeys, modest, calm, conditions, laid).
  DERIVED. THE GIVEN ROWS OF THIS SEAT. 7 by the template 'for every input the law returns true; each argument reads behind the call as it read before'; 0 by the template 'total and deterministic' (their statements: YtdngocjhblpkkaaTotals.lean).
  GIVEN WITH THE SEED: the statements are not yours to turn. If you find one false, say at which input.
  Laid BY PROGRAM, IN A SANDBOX (cutbox-rows.mjs): the forced cells as the released guide's own fill.sh prints them over the translation f50643b165f2b1f7… (all of the seat's roots in one cut). By AI agents, Wed Nov 11 2026. No macro, syntax, notation, axiom, sorry.
-/
import Derived.Test.YtdngocjhblpkkaaChecked
import GoSem.Claim
import GoSem.ClaimJoined
import GoSem.ClaimMapViews
import Derived.JoinedTies
import Derived.KernelRfl
namespace Go.Proofs.Ytdngocjhblpkkaa
/- THE CELL 'sum', in the pinned program and in every row, IS THE sha256 OF THE DUMP (.gsa) THAT YtdngocjhblpkkaaProg.lean LOADS. Nothing in Lean hashes anything: it is a label: what it is worth is what the hold of that sum in a sandbox is worth. -/
noncomputable def Try.pinned : Pinned := { name := "ytdngocjhblpkkaa", sum := "f50643b165f2b1f7dbe378625f621e21a1659945276899e5b19caab9f183e2ae", checked := Try.checked }
namespace Rows
def none {H : Type} : Left H := { results := [], args := [] }

/-- 'laws.FnExactIsJump': WHATEVER THE INPUT: true; the input reads as it did. -/
def fnExactIsJumpSpec : ChangeSpec := { name := "fnExactIsJump", fn := fun _ => fun
  | [d1, d2, d3, d4] => { results := [.lit (.bool true)], args := [d1, d2, d3, d4] }
  | _ => none }
def fnExactIsJumpRow : OpenClaim := { program := "ytdngocjhblpkkaa", sum := "f50643b165f2b1f7dbe378625f621e21a1659945276899e5b19caab9f183e2ae", func := "loop.example/g01122/laws.FnExactIsJump", spec := "fnExactIsJump", unfollowed := true, recurses := true, apart := false }
def FnExactIsJumpSaid : Prop := fnExactIsJumpRow.holds Try.pinned (OpenSpec.ofChange fnExactIsJumpSpec)

/-- ITS FALSE NEIGHBOUR: 'it returns false'. Refute it at one input. -/
def fnExactIsJumpWrong : ChangeSpec := { name := "fnExactIsJump", fn := fun _ => fun
  | [d1, d2, d3, d4] => { results := [.lit (.bool false)], args := [d1, d2, d3, d4] }
  | _ => none }
def FnExactIsJumpWrongFalsely : Prop := fnExactIsJumpRow.holds Try.pinned (OpenSpec.ofChange fnExactIsJumpWrong)

/-- 'laws.FnExactKOfPair': WHATEVER THE INPUT: true; the input reads as it did. -/
def fnExactKOfPairSpec : ChangeSpec := { name := "fnExactKOfPair", fn := fun _ => fun
  | [d1, d2, d3] => { results := [.lit (.bool true)], args := [d1, d2, d3] }
  | _ => none }
def fnExactKOfPairRow : OpenClaim := { program := "ytdngocjhblpkkaa", sum := "f50643b165f2b1f7dbe378625f621e21a1659945276899e5b19caab9f183e2ae", func := "loop.example/g01122/laws.FnExactKOfPair", spec := "fnExactKOfPair", apart := false }
def FnExactKOfPairSaid : Prop := fnExactKOfPairRow.holds Try.pinned (OpenSpec.ofChange fnExactKOfPairSpec)

/-- ITS FALSE NEIGHBOUR: 'it returns false'. Refute it at one input. -/
def fnExactKOfPairWrong : ChangeSpec := { name := "fnExactKOfPair", fn := fun _ => fun
  | [d1, d2, d3] => { results := [.lit (.bool false)], args := [d1, d2, d3] }
  | _ => none }
def FnExactKOfPairWrongFalsely : Prop := fnExactKOfPairRow.holds Try.pinned (OpenSpec.ofChange fnExactKOfPairWrong)

/-- 'laws.FnExactJumpDown': WHATEVER THE INPUT: true; the input reads as it did. -/
def fnExactJumpDownSpec : ChangeSpec := { name := "fnExactJumpDown", fn := fun _ => fun
  | [d1, d2, d3, d4] => { results := [.lit (.bool true)], args := [d1, d2, d3, d4] }
  | _ => none }
def fnExactJumpDownRow : OpenClaim := { program := "ytdngocjhblpkkaa", sum := "f50643b165f2b1f7dbe378625f621e21a1659945276899e5b19caab9f183e2ae", func := "loop.example/g01122/laws.FnExactJumpDown", spec := "fnExactJumpDown", unfollowed := true, recurses := true, apart := false }
def FnExactJumpDownSaid : Prop := fnExactJumpDownRow.holds Try.pinned (OpenSpec.ofChange fnExactJumpDownSpec)

/-- ITS FALSE NEIGHBOUR: 'it returns false'. Refute it at one input. -/
def fnExactJumpDownWrong : ChangeSpec := { name := "fnExactJumpDown", fn := fun _ => fun
  | [d1, d2, d3, d4] => { results := [.lit (.bool false)], args := [d1, d2, d3, d4] }
  | _ => none }
def FnExactJumpDownWrongFalsely : Prop := fnExactJumpDownRow.holds Try.pinned (OpenSpec.ofChange fnExactJumpDownWrong)

/-- 'laws.FnExactJumpUp': WHATEVER THE INPUT: true; the input reads as it did. -/
def fnExactJumpUpSpec : ChangeSpec := { name := "fnExactJumpUp", fn := fun _ => fun
  | [d1, d2, d3, d4] => { results := [.lit (.bool true)], args := [d1, d2, d3, d4] }
  | _ => none }
def fnExactJumpUpRow : OpenClaim := { program := "ytdngocjhblpkkaa", sum := "f50643b165f2b1f7dbe378625f621e21a1659945276899e5b19caab9f183e2ae", func := "loop.example/g01122/laws.FnExactJumpUp", spec := "fnExactJumpUp", unfollowed := true, recurses := true, apart := false }
def FnExactJumpUpSaid : Prop := fnExactJumpUpRow.holds Try.pinned (OpenSpec.ofChange fnExactJumpUpSpec)

/-- ITS FALSE NEIGHBOUR: 'it returns false'. Refute it at one input. -/
def fnExactJumpUpWrong : ChangeSpec := { name := "fnExactJumpUp", fn := fun _ => fun
  | [d1, d2, d3, d4] => { results := [.lit (.bool false)], args := [d1, d2, d3, d4] }
  | _ => none }
def FnExactJumpUpWrongFalsely : Prop := fnExactJumpUpRow.holds Try.pinned (OpenSpec.ofChange fnExactJumpUpWrong)

/-- 'laws.FnExactLeastPair': WHATEVER THE INPUT: true; the input reads as it did. -/
def fnExactLeastPairSpec : ChangeSpec := { name := "fnExactLeastPair", fn := fun _ => fun
  | [d1, d2, d3, d4] => { results := [.lit (.bool true)], args := [d1, d2, d3, d4] }
  | _ => none }
def fnExactLeastPairRow : OpenClaim := { program := "ytdngocjhblpkkaa", sum := "f50643b165f2b1f7dbe378625f621e21a1659945276899e5b19caab9f183e2ae", func := "loop.example/g01122/laws.FnExactLeastPair", spec := "fnExactLeastPair", unfollowed := true, recurses := true, apart := false }
def FnExactLeastPairSaid : Prop := fnExactLeastPairRow.holds Try.pinned (OpenSpec.ofChange fnExactLeastPairSpec)

/-- ITS FALSE NEIGHBOUR: 'it returns false'. Refute it at one input. -/
def fnExactLeastPairWrong : ChangeSpec := { name := "fnExactLeastPair", fn := fun _ => fun
  | [d1, d2, d3, d4] => { results := [.lit (.bool false)], args := [d1, d2, d3, d4] }
  | _ => none }
def FnExactLeastPairWrongFalsely : Prop := fnExactLeastPairRow.holds Try.pinned (OpenSpec.ofChange fnExactLeastPairWrong)

/-- 'laws.FnExactSquareQuotient': WHATEVER THE INPUT: true; the input reads as it did. -/
def fnExactSquareQuotientSpec : ChangeSpec := { name := "fnExactSquareQuotient", fn := fun _ => fun
  | [d1, d2] => { results := [.lit (.bool true)], args := [d1, d2] }
  | _ => none }
def fnExactSquareQuotientRow : OpenClaim := { program := "ytdngocjhblpkkaa", sum := "f50643b165f2b1f7dbe378625f621e21a1659945276899e5b19caab9f183e2ae", func := "loop.example/g01122/laws.FnExactSquareQuotient", spec := "fnExactSquareQuotient", apart := false }
def FnExactSquareQuotientSaid : Prop := fnExactSquareQuotientRow.holds Try.pinned (OpenSpec.ofChange fnExactSquareQuotientSpec)

/-- ITS FALSE NEIGHBOUR: 'it returns false'. Refute it at one input. -/
def fnExactSquareQuotientWrong : ChangeSpec := { name := "fnExactSquareQuotient", fn := fun _ => fun
  | [d1, d2] => { results := [.lit (.bool false)], args := [d1, d2] }
  | _ => none }
def FnExactSquareQuotientWrongFalsely : Prop := fnExactSquareQuotientRow.holds Try.pinned (OpenSpec.ofChange fnExactSquareQuotientWrong)

/-- 'laws.FnExactJumpMatrix': WHATEVER THE INPUT: true; the input reads as it did. -/
def fnExactJumpMatrixSpec : ChangeSpec := { name := "fnExactJumpMatrix", fn := fun _ => fun
  | [d] => { results := [.lit (.bool true)], args := [d] }
  | _ => none }
def fnExactJumpMatrixRow : OpenClaim := { program := "ytdngocjhblpkkaa", sum := "f50643b165f2b1f7dbe378625f621e21a1659945276899e5b19caab9f183e2ae", func := "loop.example/g01122/laws.FnExactJumpMatrix", spec := "fnExactJumpMatrix", apart := false }
def FnExactJumpMatrixSaid : Prop := fnExactJumpMatrixRow.holds Try.pinned (OpenSpec.ofChange fnExactJumpMatrixSpec)

/-- ITS FALSE NEIGHBOUR: 'it returns false'. Refute it at one input. -/
def fnExactJumpMatrixWrong : ChangeSpec := { name := "fnExactJumpMatrix", fn := fun _ => fun
  | [d] => { results := [.lit (.bool false)], args := [d] }
  | _ => none }
def FnExactJumpMatrixWrongFalsely : Prop := fnExactJumpMatrixRow.holds Try.pinned (OpenSpec.ofChange fnExactJumpMatrixWrong)

/- THE SECOND FORM. 'bulk': how many values and letters a reading holds, each counted each time it is reached (what is shared counts as often as it is met; a slice's spare places count too). A statement '..UptoSaid' is the law's where the arguments, and the package variables that the reading takes, are together of bulk at most 1048576: NARROWER than '..Said'. Prove '..Said' where nothing that the law and all that it calls make is longer than what came in: it says more and counts as full. Else prove '..UptoSaid'. A law counts once. -/
mutual
def uptoBulk {H : Type} : DataW H → Nat
  | .lit (.string bytes) => bytes.length + 1
  | .lit _ => 1
  | .nil => 1
  | .ptr d => uptoBulk d + 1
  | .slice elems spare => uptoBulkAll elems + uptoBulkAll spare + 1
  | .agg parts => uptoBulkAll parts + 1
  | .iface _ d => uptoBulk d + 1
  | .map entries => uptoBulkEntries entries + 1
  | .held _ => 1
def uptoBulkAll {H : Type} : List (DataW H) → Nat
  | [] => 0
  | d :: r => uptoBulk d + uptoBulkAll r
def uptoBulkEntries {H : Type} : List (Lit × DataW H) → Nat
  | [] => 0
  | x :: r => uptoBulkEntry x + uptoBulkEntries r
def uptoBulkEntry {H : Type} : Lit × DataW H → Nat
  | (.string bytes, d) => bytes.length + uptoBulk d + 1
  | (_, d) => uptoBulk d + 1
 end
def uptoSmall : (H : Type) → List (DataW H) → Bool := fun _ ds => decide (uptoBulkAll ds ≤ 1048576)
def OpenSpec.upto (s : _root_.Go.ChangeSpec) : _root_.Go.OpenSpec := { _root_.Go.OpenSpec.ofChange s with cond := some uptoSmall }

/-- 'laws.FnExactIsJump', WHERE WHAT IT READS IS OF BULK AT MOST 1048576: true; the input reads as it did. -/
def fnExactIsJumpUptoRow : OpenClaim := { program := "ytdngocjhblpkkaa", sum := "f50643b165f2b1f7dbe378625f621e21a1659945276899e5b19caab9f183e2ae", func := "loop.example/g01122/laws.FnExactIsJump", spec := "fnExactIsJump", unfollowed := true, recurses := true, apart := false, narrowed := true }
def FnExactIsJumpUptoSaid : Prop := fnExactIsJumpUptoRow.holds Try.pinned (OpenSpec.upto fnExactIsJumpSpec)

/-- 'laws.FnExactKOfPair', WHERE WHAT IT READS IS OF BULK AT MOST 1048576: true; the input reads as it did. -/
def fnExactKOfPairUptoRow : OpenClaim := { program := "ytdngocjhblpkkaa", sum := "f50643b165f2b1f7dbe378625f621e21a1659945276899e5b19caab9f183e2ae", func := "loop.example/g01122/laws.FnExactKOfPair", spec := "fnExactKOfPair", apart := false, narrowed := true }
def FnExactKOfPairUptoSaid : Prop := fnExactKOfPairUptoRow.holds Try.pinned (OpenSpec.upto fnExactKOfPairSpec)

/-- 'laws.FnExactJumpDown', WHERE WHAT IT READS IS OF BULK AT MOST 1048576: true; the input reads as it did. -/
def fnExactJumpDownUptoRow : OpenClaim := { program := "ytdngocjhblpkkaa", sum := "f50643b165f2b1f7dbe378625f621e21a1659945276899e5b19caab9f183e2ae", func := "loop.example/g01122/laws.FnExactJumpDown", spec := "fnExactJumpDown", unfollowed := true, recurses := true, apart := false, narrowed := true }
def FnExactJumpDownUptoSaid : Prop := fnExactJumpDownUptoRow.holds Try.pinned (OpenSpec.upto fnExactJumpDownSpec)

/-- 'laws.FnExactJumpUp', WHERE WHAT IT READS IS OF BULK AT MOST 1048576: true; the input reads as it did. -/
def fnExactJumpUpUptoRow : OpenClaim := { program := "ytdngocjhblpkkaa", sum := "f50643b165f2b1f7dbe378625f621e21a1659945276899e5b19caab9f183e2ae", func := "loop.example/g01122/laws.FnExactJumpUp", spec := "fnExactJumpUp", unfollowed := true, recurses := true, apart := false, narrowed := true }
def FnExactJumpUpUptoSaid : Prop := fnExactJumpUpUptoRow.holds Try.pinned (OpenSpec.upto fnExactJumpUpSpec)

/-- 'laws.FnExactLeastPair', WHERE WHAT IT READS IS OF BULK AT MOST 1048576: true; the input reads as it did. -/
def fnExactLeastPairUptoRow : OpenClaim := { program := "ytdngocjhblpkkaa", sum := "f50643b165f2b1f7dbe378625f621e21a1659945276899e5b19caab9f183e2ae", func := "loop.example/g01122/laws.FnExactLeastPair", spec := "fnExactLeastPair", unfollowed := true, recurses := true, apart := false, narrowed := true }
def FnExactLeastPairUptoSaid : Prop := fnExactLeastPairUptoRow.holds Try.pinned (OpenSpec.upto fnExactLeastPairSpec)

/-- 'laws.FnExactSquareQuotient', WHERE WHAT IT READS IS OF BULK AT MOST 1048576: true; the input reads as it did. -/
def fnExactSquareQuotientUptoRow : OpenClaim := { program := "ytdngocjhblpkkaa", sum := "f50643b165f2b1f7dbe378625f621e21a1659945276899e5b19caab9f183e2ae", func := "loop.example/g01122/laws.FnExactSquareQuotient", spec := "fnExactSquareQuotient", apart := false, narrowed := true }
def FnExactSquareQuotientUptoSaid : Prop := fnExactSquareQuotientUptoRow.holds Try.pinned (OpenSpec.upto fnExactSquareQuotientSpec)

/-- 'laws.FnExactJumpMatrix', WHERE WHAT IT READS IS OF BULK AT MOST 1048576: true; the input reads as it did. -/
def fnExactJumpMatrixUptoRow : OpenClaim := { program := "ytdngocjhblpkkaa", sum := "f50643b165f2b1f7dbe378625f621e21a1659945276899e5b19caab9f183e2ae", func := "loop.example/g01122/laws.FnExactJumpMatrix", spec := "fnExactJumpMatrix", apart := false, narrowed := true }
def FnExactJumpMatrixUptoSaid : Prop := fnExactJumpMatrixUptoRow.holds Try.pinned (OpenSpec.upto fnExactJumpMatrixSpec)

end Rows
end Go.Proofs.Ytdngocjhblpkkaa
