/-
  No cell of these rows narrows 'for every input' (looked for: loops, veiled, ifaces, maps, wideKeys, modest, calm, conditions, laid).
  DERIVED. THE GIVEN ROWS OF THIS SEAT. 4 by the template 'for every input the law returns true; each argument reads behind the call as it read before'; 0 by the template 'total and deterministic' (their statements: YtcgdegmhajfbaacTotals.lean).
  GIVEN WITH THE SEED: the statements are not yours to turn. If you find one false, say at which input.
  Laid BY PROGRAM, IN A SANDBOX (cutbox-rows.mjs): the forced cells as the released guide's own fill.sh prints them over the translation 1d85b773eceedaad… (all of the seat's roots in one cut). By AI agents, Wed Nov 11 2026. No macro, syntax, notation, axiom, sorry.
-/
import Derived.Test.YtcgdegmhajfbaacChecked
import GoSem.Claim
import GoSem.ClaimJoined
import GoSem.ClaimMapViews
import Derived.JoinedTies
import Derived.KernelRfl
namespace Go.Proofs.Ytcgdegmhajfbaac
/- THE CELL 'sum', in the pinned program and in every row, IS THE sha256 OF THE DUMP (.gsa) THAT YtcgdegmhajfbaacProg.lean LOADS. Nothing in Lean hashes anything: it is a label: what it is worth is what the hold of that sum in a sandbox is worth. -/
noncomputable def Try.pinned : Pinned := { name := "ytcgdegmhajfbaac", sum := "1d85b773eceedaada3b58cc3fea617261c82a5ad830b4d0eed6ed19aaab14cce", checked := Try.checked }
namespace Rows
def none {H : Type} : Left H := { results := [], args := [] }

/-- 'laws.FnExactTwoDescent': WHATEVER THE INPUT: true; the input reads as it did. -/
def fnExactTwoDescentSpec : ChangeSpec := { name := "fnExactTwoDescent", fn := fun _ => fun
  | [d] => { results := [.lit (.bool true)], args := [d] }
  | _ => none }
def fnExactTwoDescentRow : OpenClaim := { program := "ytcgdegmhajfbaac", sum := "1d85b773eceedaada3b58cc3fea617261c82a5ad830b4d0eed6ed19aaab14cce", func := "loop.example/g01122/laws.FnExactTwoDescent", spec := "fnExactTwoDescent", unfollowed := true, recurses := true, apart := false }
def FnExactTwoDescentSaid : Prop := fnExactTwoDescentRow.holds Try.pinned (OpenSpec.ofChange fnExactTwoDescentSpec)

/-- ITS FALSE NEIGHBOUR: 'it returns false'. Refute it at one input. -/
def fnExactTwoDescentWrong : ChangeSpec := { name := "fnExactTwoDescent", fn := fun _ => fun
  | [d] => { results := [.lit (.bool false)], args := [d] }
  | _ => none }
def FnExactTwoDescentWrongFalsely : Prop := fnExactTwoDescentRow.holds Try.pinned (OpenSpec.ofChange fnExactTwoDescentWrong)

/-- 'laws.FnExactFourDescent': WHATEVER THE INPUT: true; the input reads as it did. -/
def fnExactFourDescentSpec : ChangeSpec := { name := "fnExactFourDescent", fn := fun _ => fun
  | [d] => { results := [.lit (.bool true)], args := [d] }
  | _ => none }
def fnExactFourDescentRow : OpenClaim := { program := "ytcgdegmhajfbaac", sum := "1d85b773eceedaada3b58cc3fea617261c82a5ad830b4d0eed6ed19aaab14cce", func := "loop.example/g01122/laws.FnExactFourDescent", spec := "fnExactFourDescent", unfollowed := true, recurses := true, apart := false }
def FnExactFourDescentSaid : Prop := fnExactFourDescentRow.holds Try.pinned (OpenSpec.ofChange fnExactFourDescentSpec)

/-- ITS FALSE NEIGHBOUR: 'it returns false'. Refute it at one input. -/
def fnExactFourDescentWrong : ChangeSpec := { name := "fnExactFourDescent", fn := fun _ => fun
  | [d] => { results := [.lit (.bool false)], args := [d] }
  | _ => none }
def FnExactFourDescentWrongFalsely : Prop := fnExactFourDescentRow.holds Try.pinned (OpenSpec.ofChange fnExactFourDescentWrong)

/-- 'laws.FnExactMultiplyTwo': WHATEVER THE INPUT: true; the input reads as it did. -/
def fnExactMultiplyTwoSpec : ChangeSpec := { name := "fnExactMultiplyTwo", fn := fun _ => fun
  | [d1, d2] => { results := [.lit (.bool true)], args := [d1, d2] }
  | _ => none }
def fnExactMultiplyTwoRow : OpenClaim := { program := "ytcgdegmhajfbaac", sum := "1d85b773eceedaada3b58cc3fea617261c82a5ad830b4d0eed6ed19aaab14cce", func := "loop.example/g01122/laws.FnExactMultiplyTwo", spec := "fnExactMultiplyTwo", unfollowed := true, recurses := true, apart := false }
def FnExactMultiplyTwoSaid : Prop := fnExactMultiplyTwoRow.holds Try.pinned (OpenSpec.ofChange fnExactMultiplyTwoSpec)

/-- ITS FALSE NEIGHBOUR: 'it returns false'. Refute it at one input. -/
def fnExactMultiplyTwoWrong : ChangeSpec := { name := "fnExactMultiplyTwo", fn := fun _ => fun
  | [d1, d2] => { results := [.lit (.bool false)], args := [d1, d2] }
  | _ => none }
def FnExactMultiplyTwoWrongFalsely : Prop := fnExactMultiplyTwoRow.holds Try.pinned (OpenSpec.ofChange fnExactMultiplyTwoWrong)

/-- 'laws.FnExactMultiplyFour': WHATEVER THE INPUT: true; the input reads as it did. -/
def fnExactMultiplyFourSpec : ChangeSpec := { name := "fnExactMultiplyFour", fn := fun _ => fun
  | [d1, d2] => { results := [.lit (.bool true)], args := [d1, d2] }
  | _ => none }
def fnExactMultiplyFourRow : OpenClaim := { program := "ytcgdegmhajfbaac", sum := "1d85b773eceedaada3b58cc3fea617261c82a5ad830b4d0eed6ed19aaab14cce", func := "loop.example/g01122/laws.FnExactMultiplyFour", spec := "fnExactMultiplyFour", unfollowed := true, recurses := true, apart := false }
def FnExactMultiplyFourSaid : Prop := fnExactMultiplyFourRow.holds Try.pinned (OpenSpec.ofChange fnExactMultiplyFourSpec)

/-- ITS FALSE NEIGHBOUR: 'it returns false'. Refute it at one input. -/
def fnExactMultiplyFourWrong : ChangeSpec := { name := "fnExactMultiplyFour", fn := fun _ => fun
  | [d1, d2] => { results := [.lit (.bool false)], args := [d1, d2] }
  | _ => none }
def FnExactMultiplyFourWrongFalsely : Prop := fnExactMultiplyFourRow.holds Try.pinned (OpenSpec.ofChange fnExactMultiplyFourWrong)

/- THE SECOND FORM. 'bulk': how many values and letters a reading holds, each counted each time it is reached (what is shared counts as often as it is met; a slice's spare places count too). A statement '..UptoSaid' is the law's where the arguments, and the package variables that the reading takes, are together of bulk at most 1048576: NARROWER than '..Said'. Prove '..Said' where nothing that the law and all that it calls make is longer than what came in: it says more and counts as full. Else prove '..UptoSaid'. A law counts once. -/
mutual
def uptoBulk {H : Type} : DataW H → Nat
  | .lit (.string bytes) => bytes.length + 1
  | .lit _ => 1
  | .nil => 1
  | .ptr d => uptoBulk d + 1
  | .slice elems spare => uptoBulkAll elems + uptoBulkAll spare + 1
  | .agg parts => uptoBulkAll parts + 1
  | .iface _ d => uptoBulk d + 1
  | .map entries => uptoBulkEntries entries + 1
  | .held _ => 1
def uptoBulkAll {H : Type} : List (DataW H) → Nat
  | [] => 0
  | d :: r => uptoBulk d + uptoBulkAll r
def uptoBulkEntries {H : Type} : List (Lit × DataW H) → Nat
  | [] => 0
  | x :: r => uptoBulkEntry x + uptoBulkEntries r
def uptoBulkEntry {H : Type} : Lit × DataW H → Nat
  | (.string bytes, d) => bytes.length + uptoBulk d + 1
  | (_, d) => uptoBulk d + 1
 end
def uptoSmall : (H : Type) → List (DataW H) → Bool := fun _ ds => decide (uptoBulkAll ds ≤ 1048576)
def OpenSpec.upto (s : _root_.Go.ChangeSpec) : _root_.Go.OpenSpec := { _root_.Go.OpenSpec.ofChange s with cond := some uptoSmall }

/-- 'laws.FnExactTwoDescent', WHERE WHAT IT READS IS OF BULK AT MOST 1048576: true; the input reads as it did. -/
def fnExactTwoDescentUptoRow : OpenClaim := { program := "ytcgdegmhajfbaac", sum := "1d85b773eceedaada3b58cc3fea617261c82a5ad830b4d0eed6ed19aaab14cce", func := "loop.example/g01122/laws.FnExactTwoDescent", spec := "fnExactTwoDescent", unfollowed := true, recurses := true, apart := false, narrowed := true }
def FnExactTwoDescentUptoSaid : Prop := fnExactTwoDescentUptoRow.holds Try.pinned (OpenSpec.upto fnExactTwoDescentSpec)

/-- 'laws.FnExactFourDescent', WHERE WHAT IT READS IS OF BULK AT MOST 1048576: true; the input reads as it did. -/
def fnExactFourDescentUptoRow : OpenClaim := { program := "ytcgdegmhajfbaac", sum := "1d85b773eceedaada3b58cc3fea617261c82a5ad830b4d0eed6ed19aaab14cce", func := "loop.example/g01122/laws.FnExactFourDescent", spec := "fnExactFourDescent", unfollowed := true, recurses := true, apart := false, narrowed := true }
def FnExactFourDescentUptoSaid : Prop := fnExactFourDescentUptoRow.holds Try.pinned (OpenSpec.upto fnExactFourDescentSpec)

/-- 'laws.FnExactMultiplyTwo', WHERE WHAT IT READS IS OF BULK AT MOST 1048576: true; the input reads as it did. -/
def fnExactMultiplyTwoUptoRow : OpenClaim := { program := "ytcgdegmhajfbaac", sum := "1d85b773eceedaada3b58cc3fea617261c82a5ad830b4d0eed6ed19aaab14cce", func := "loop.example/g01122/laws.FnExactMultiplyTwo", spec := "fnExactMultiplyTwo", unfollowed := true, recurses := true, apart := false, narrowed := true }
def FnExactMultiplyTwoUptoSaid : Prop := fnExactMultiplyTwoUptoRow.holds Try.pinned (OpenSpec.upto fnExactMultiplyTwoSpec)

/-- 'laws.FnExactMultiplyFour', WHERE WHAT IT READS IS OF BULK AT MOST 1048576: true; the input reads as it did. -/
def fnExactMultiplyFourUptoRow : OpenClaim := { program := "ytcgdegmhajfbaac", sum := "1d85b773eceedaada3b58cc3fea617261c82a5ad830b4d0eed6ed19aaab14cce", func := "loop.example/g01122/laws.FnExactMultiplyFour", spec := "fnExactMultiplyFour", unfollowed := true, recurses := true, apart := false, narrowed := true }
def FnExactMultiplyFourUptoSaid : Prop := fnExactMultiplyFourUptoRow.holds Try.pinned (OpenSpec.upto fnExactMultiplyFourSpec)

end Rows
end Go.Proofs.Ytcgdegmhajfbaac
