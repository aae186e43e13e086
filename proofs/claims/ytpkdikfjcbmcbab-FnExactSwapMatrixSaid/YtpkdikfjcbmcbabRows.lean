/-
  No cell of these rows narrows 'for every input' (looked for: loops, veiled, ifaces, maps, wideKeys, modest, calm, conditions, laid).
  DERIVED. THE GIVEN ROWS OF THIS SEAT. 6 by the template 'for every input the law returns true; each argument reads behind the call as it read before'; 0 by the template 'total and deterministic' (their statements: YtpkdikfjcbmcbabTotals.lean).
  GIVEN WITH THE SEED: the statements are not yours to turn. If you find one false, say at which input.
  Laid BY PROGRAM, IN A SANDBOX (cutbox-rows.mjs): the forced cells as the released guide's own fill.sh prints them over the translation eea6b1b5f0725c32… (all of the seat's roots in one cut). By AI agents, Wed Nov 11 2026. No macro, syntax, notation, axiom, sorry.
-/
import Derived.Test.YtpkdikfjcbmcbabChecked
import GoSem.Claim
import GoSem.ClaimJoined
import GoSem.ClaimMapViews
import Derived.JoinedTies
import Derived.KernelRfl
namespace Go.Proofs.Ytpkdikfjcbmcbab
/- THE CELL 'sum', in the pinned program and in every row, IS THE sha256 OF THE DUMP (.gsa) THAT YtpkdikfjcbmcbabProg.lean LOADS. Nothing in Lean hashes anything: it is a label: what it is worth is what the hold of that sum in a sandbox is worth. -/
noncomputable def Try.pinned : Pinned := { name := "ytpkdikfjcbmcbab", sum := "eea6b1b5f0725c32ea10a099dc765c47048066615d60dc387fcbfc7a8a825ff1", checked := Try.checked }
namespace Rows
def none {H : Type} : Left H := { results := [], args := [] }

/-- 'laws.FnExactDownPath': WHATEVER THE INPUT: true; the input reads as it did. -/
def fnExactDownPathSpec : ChangeSpec := { name := "fnExactDownPath", fn := fun _ => fun
  | [d] => { results := [.lit (.bool true)], args := [d] }
  | _ => none }
def fnExactDownPathRow : OpenClaim := { program := "ytpkdikfjcbmcbab", sum := "eea6b1b5f0725c32ea10a099dc765c47048066615d60dc387fcbfc7a8a825ff1", func := "loop.example/g01122/laws.FnExactDownPath", spec := "fnExactDownPath", unfollowed := true, recurses := true, apart := false }
def FnExactDownPathSaid : Prop := fnExactDownPathRow.holds Try.pinned (OpenSpec.ofChange fnExactDownPathSpec)

/-- ITS FALSE NEIGHBOUR: 'it returns false'. Refute it at one input. -/
def fnExactDownPathWrong : ChangeSpec := { name := "fnExactDownPath", fn := fun _ => fun
  | [d] => { results := [.lit (.bool false)], args := [d] }
  | _ => none }
def FnExactDownPathWrongFalsely : Prop := fnExactDownPathRow.holds Try.pinned (OpenSpec.ofChange fnExactDownPathWrong)

/-- 'laws.FnExactDownWord': WHATEVER THE INPUT: true; the input reads as it did. -/
def fnExactDownWordSpec : ChangeSpec := { name := "fnExactDownWord", fn := fun _ => fun
  | [d] => { results := [.lit (.bool true)], args := [d] }
  | _ => none }
def fnExactDownWordRow : OpenClaim := { program := "ytpkdikfjcbmcbab", sum := "eea6b1b5f0725c32ea10a099dc765c47048066615d60dc387fcbfc7a8a825ff1", func := "loop.example/g01122/laws.FnExactDownWord", spec := "fnExactDownWord", unfollowed := true, recurses := true, apart := false }
def FnExactDownWordSaid : Prop := fnExactDownWordRow.holds Try.pinned (OpenSpec.ofChange fnExactDownWordSpec)

/-- ITS FALSE NEIGHBOUR: 'it returns false'. Refute it at one input. -/
def fnExactDownWordWrong : ChangeSpec := { name := "fnExactDownWord", fn := fun _ => fun
  | [d] => { results := [.lit (.bool false)], args := [d] }
  | _ => none }
def FnExactDownWordWrongFalsely : Prop := fnExactDownWordRow.holds Try.pinned (OpenSpec.ofChange fnExactDownWordWrong)

/-- 'laws.FnExactRootQuad': WHATEVER THE INPUT: true; the input reads as it did. -/
def fnExactRootQuadSpec : ChangeSpec := { name := "fnExactRootQuad", fn := fun _ => fun
  | [d] => { results := [.lit (.bool true)], args := [d] }
  | _ => none }
def fnExactRootQuadRow : OpenClaim := { program := "ytpkdikfjcbmcbab", sum := "eea6b1b5f0725c32ea10a099dc765c47048066615d60dc387fcbfc7a8a825ff1", func := "loop.example/g01122/laws.FnExactRootQuad", spec := "fnExactRootQuad", unfollowed := true, recurses := true, apart := false }
def FnExactRootQuadSaid : Prop := fnExactRootQuadRow.holds Try.pinned (OpenSpec.ofChange fnExactRootQuadSpec)

/-- ITS FALSE NEIGHBOUR: 'it returns false'. Refute it at one input. -/
def fnExactRootQuadWrong : ChangeSpec := { name := "fnExactRootQuad", fn := fun _ => fun
  | [d] => { results := [.lit (.bool false)], args := [d] }
  | _ => none }
def FnExactRootQuadWrongFalsely : Prop := fnExactRootQuadRow.holds Try.pinned (OpenSpec.ofChange fnExactRootQuadWrong)

/-- 'laws.FnExactRootsWith': WHATEVER THE INPUT: true; the input reads as it did. -/
def fnExactRootsWithSpec : ChangeSpec := { name := "fnExactRootsWith", fn := fun _ => fun
  | [d] => { results := [.lit (.bool true)], args := [d] }
  | _ => none }
def fnExactRootsWithRow : OpenClaim := { program := "ytpkdikfjcbmcbab", sum := "eea6b1b5f0725c32ea10a099dc765c47048066615d60dc387fcbfc7a8a825ff1", func := "loop.example/g01122/laws.FnExactRootsWith", spec := "fnExactRootsWith", unfollowed := true, recurses := true, apart := false }
def FnExactRootsWithSaid : Prop := fnExactRootsWithRow.holds Try.pinned (OpenSpec.ofChange fnExactRootsWithSpec)

/-- ITS FALSE NEIGHBOUR: 'it returns false'. Refute it at one input. -/
def fnExactRootsWithWrong : ChangeSpec := { name := "fnExactRootsWith", fn := fun _ => fun
  | [d] => { results := [.lit (.bool false)], args := [d] }
  | _ => none }
def FnExactRootsWithWrongFalsely : Prop := fnExactRootsWithRow.holds Try.pinned (OpenSpec.ofChange fnExactRootsWithWrong)

/-- 'laws.FnExactAllRootsUpTo': WHATEVER THE INPUT: true; the input reads as it did. -/
def fnExactAllRootsUpToSpec : ChangeSpec := { name := "fnExactAllRootsUpTo", fn := fun _ => fun
  | [d] => { results := [.lit (.bool true)], args := [d] }
  | _ => none }
def fnExactAllRootsUpToRow : OpenClaim := { program := "ytpkdikfjcbmcbab", sum := "eea6b1b5f0725c32ea10a099dc765c47048066615d60dc387fcbfc7a8a825ff1", func := "loop.example/g01122/laws.FnExactAllRootsUpTo", spec := "fnExactAllRootsUpTo", unfollowed := true, recurses := true, apart := false }
def FnExactAllRootsUpToSaid : Prop := fnExactAllRootsUpToRow.holds Try.pinned (OpenSpec.ofChange fnExactAllRootsUpToSpec)

/-- ITS FALSE NEIGHBOUR: 'it returns false'. Refute it at one input. -/
def fnExactAllRootsUpToWrong : ChangeSpec := { name := "fnExactAllRootsUpTo", fn := fun _ => fun
  | [d] => { results := [.lit (.bool false)], args := [d] }
  | _ => none }
def FnExactAllRootsUpToWrongFalsely : Prop := fnExactAllRootsUpToRow.holds Try.pinned (OpenSpec.ofChange fnExactAllRootsUpToWrong)

/-- 'laws.FnExactSwapMatrix': WHATEVER THE INPUT: true; the input reads as it did. -/
def fnExactSwapMatrixSpec : ChangeSpec := { name := "fnExactSwapMatrix", fn := fun _ => fun
  | [d] => { results := [.lit (.bool true)], args := [d] }
  | _ => none }
def fnExactSwapMatrixRow : OpenClaim := { program := "ytpkdikfjcbmcbab", sum := "eea6b1b5f0725c32ea10a099dc765c47048066615d60dc387fcbfc7a8a825ff1", func := "loop.example/g01122/laws.FnExactSwapMatrix", spec := "fnExactSwapMatrix", unfollowed := true, recurses := true, apart := false }
def FnExactSwapMatrixSaid : Prop := fnExactSwapMatrixRow.holds Try.pinned (OpenSpec.ofChange fnExactSwapMatrixSpec)

/-- ITS FALSE NEIGHBOUR: 'it returns false'. Refute it at one input. -/
def fnExactSwapMatrixWrong : ChangeSpec := { name := "fnExactSwapMatrix", fn := fun _ => fun
  | [d] => { results := [.lit (.bool false)], args := [d] }
  | _ => none }
def FnExactSwapMatrixWrongFalsely : Prop := fnExactSwapMatrixRow.holds Try.pinned (OpenSpec.ofChange fnExactSwapMatrixWrong)

/- THE SECOND FORM. 'bulk': how many values and letters a reading holds, each counted each time it is reached (what is shared counts as often as it is met; a slice's spare places count too). A statement '..UptoSaid' is the law's where the arguments, and the package variables that the reading takes, are together of bulk at most 1048576: NARROWER than '..Said'. Prove '..Said' where nothing that the law and all that it calls make is longer than what came in: it says more and counts as full. Else prove '..UptoSaid'. A law counts once. -/
mutual
def uptoBulk {H : Type} : DataW H → Nat
  | .lit (.string bytes) => bytes.length + 1
  | .lit _ => 1
  | .nil => 1
  | .ptr d => uptoBulk d + 1
  | .slice elems spare => uptoBulkAll elems + uptoBulkAll spare + 1
  | .agg parts => uptoBulkAll parts + 1
  | .iface _ d => uptoBulk d + 1
  | .map entries => uptoBulkEntries entries + 1
  | .held _ => 1
def uptoBulkAll {H : Type} : List (DataW H) → Nat
  | [] => 0
  | d :: r => uptoBulk d + uptoBulkAll r
def uptoBulkEntries {H : Type} : List (Lit × DataW H) → Nat
  | [] => 0
  | x :: r => uptoBulkEntry x + uptoBulkEntries r
def uptoBulkEntry {H : Type} : Lit × DataW H → Nat
  | (.string bytes, d) => bytes.length + uptoBulk d + 1
  | (_, d) => uptoBulk d + 1
 end
def uptoSmall : (H : Type) → List (DataW H) → Bool := fun _ ds => decide (uptoBulkAll ds ≤ 1048576)
def OpenSpec.upto (s : _root_.Go.ChangeSpec) : _root_.Go.OpenSpec := { _root_.Go.OpenSpec.ofChange s with cond := some uptoSmall }

/-- 'laws.FnExactDownPath', WHERE WHAT IT READS IS OF BULK AT MOST 1048576: true; the input reads as it did. -/
def fnExactDownPathUptoRow : OpenClaim := { program := "ytpkdikfjcbmcbab", sum := "eea6b1b5f0725c32ea10a099dc765c47048066615d60dc387fcbfc7a8a825ff1", func := "loop.example/g01122/laws.FnExactDownPath", spec := "fnExactDownPath", unfollowed := true, recurses := true, apart := false, narrowed := true }
def FnExactDownPathUptoSaid : Prop := fnExactDownPathUptoRow.holds Try.pinned (OpenSpec.upto fnExactDownPathSpec)

/-- 'laws.FnExactDownWord', WHERE WHAT IT READS IS OF BULK AT MOST 1048576: true; the input reads as it did. -/
def fnExactDownWordUptoRow : OpenClaim := { program := "ytpkdikfjcbmcbab", sum := "eea6b1b5f0725c32ea10a099dc765c47048066615d60dc387fcbfc7a8a825ff1", func := "loop.example/g01122/laws.FnExactDownWord", spec := "fnExactDownWord", unfollowed := true, recurses := true, apart := false, narrowed := true }
def FnExactDownWordUptoSaid : Prop := fnExactDownWordUptoRow.holds Try.pinned (OpenSpec.upto fnExactDownWordSpec)

/-- 'laws.FnExactRootQuad', WHERE WHAT IT READS IS OF BULK AT MOST 1048576: true; the input reads as it did. -/
def fnExactRootQuadUptoRow : OpenClaim := { program := "ytpkdikfjcbmcbab", sum := "eea6b1b5f0725c32ea10a099dc765c47048066615d60dc387fcbfc7a8a825ff1", func := "loop.example/g01122/laws.FnExactRootQuad", spec := "fnExactRootQuad", unfollowed := true, recurses := true, apart := false, narrowed := true }
def FnExactRootQuadUptoSaid : Prop := fnExactRootQuadUptoRow.holds Try.pinned (OpenSpec.upto fnExactRootQuadSpec)

/-- 'laws.FnExactRootsWith', WHERE WHAT IT READS IS OF BULK AT MOST 1048576: true; the input reads as it did. -/
def fnExactRootsWithUptoRow : OpenClaim := { program := "ytpkdikfjcbmcbab", sum := "eea6b1b5f0725c32ea10a099dc765c47048066615d60dc387fcbfc7a8a825ff1", func := "loop.example/g01122/laws.FnExactRootsWith", spec := "fnExactRootsWith", unfollowed := true, recurses := true, apart := false, narrowed := true }
def FnExactRootsWithUptoSaid : Prop := fnExactRootsWithUptoRow.holds Try.pinned (OpenSpec.upto fnExactRootsWithSpec)

/-- 'laws.FnExactAllRootsUpTo', WHERE WHAT IT READS IS OF BULK AT MOST 1048576: true; the input reads as it did. -/
def fnExactAllRootsUpToUptoRow : OpenClaim := { program := "ytpkdikfjcbmcbab", sum := "eea6b1b5f0725c32ea10a099dc765c47048066615d60dc387fcbfc7a8a825ff1", func := "loop.example/g01122/laws.FnExactAllRootsUpTo", spec := "fnExactAllRootsUpTo", unfollowed := true, recurses := true, apart := false, narrowed := true }
def FnExactAllRootsUpToUptoSaid : Prop := fnExactAllRootsUpToUptoRow.holds Try.pinned (OpenSpec.upto fnExactAllRootsUpToSpec)

/-- 'laws.FnExactSwapMatrix', WHERE WHAT IT READS IS OF BULK AT MOST 1048576: true; the input reads as it did. -/
def fnExactSwapMatrixUptoRow : OpenClaim := { program := "ytpkdikfjcbmcbab", sum := "eea6b1b5f0725c32ea10a099dc765c47048066615d60dc387fcbfc7a8a825ff1", func := "loop.example/g01122/laws.FnExactSwapMatrix", spec := "fnExactSwapMatrix", unfollowed := true, recurses := true, apart := false, narrowed := true }
def FnExactSwapMatrixUptoSaid : Prop := fnExactSwapMatrixUptoRow.holds Try.pinned (OpenSpec.upto fnExactSwapMatrixSpec)

end Rows
end Go.Proofs.Ytpkdikfjcbmcbab
