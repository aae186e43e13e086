/-
  No cell of these rows narrows 'for every input' (looked for: loops, veiled, ifaces, maps, wideKeys, modest, calm, conditions, laid).
  DERIVED. THE GIVEN ROWS OF THIS SEAT. 10 by the template 'for every input the law returns true; each argument reads behind the call as it read before'; 0 by the template 'total and deterministic' (their statements: YtmlnpnglafipbaaTotals.lean).
  GIVEN WITH THE SEED: the statements are not yours to turn. If you find one false, say at which input.
  Laid BY PROGRAM, IN A SANDBOX (cutbox-rows.mjs): the forced cells as the released guide's own fill.sh prints them over the translation 587aec584357d662… (all of the seat's roots in one cut). By AI agents, Wed Nov 11 2026. No macro, syntax, notation, axiom, sorry.
-/
import Derived.Test.YtmlnpnglafipbaaChecked
import GoSem.Claim
import GoSem.ClaimJoined
import GoSem.ClaimMapViews
import Derived.JoinedTies
import Derived.KernelRfl
namespace Go.Proofs.Ytmlnpnglafipbaa
/- THE CELL 'sum', in the pinned program and in every row, IS THE sha256 OF THE DUMP (.gsa) THAT YtmlnpnglafipbaaProg.lean LOADS. Nothing in Lean hashes anything: it is a label: what it is worth is what the hold of that sum in a sandbox is worth. -/
noncomputable def Try.pinned : Pinned := { name := "ytmlnpnglafipbaa", sum := "587aec584357d6621c61b6077986f8b69f4f556f3bd841fa92d71d67748c68d5", checked := Try.checked }
namespace Rows
def none {H : Type} : Left H := { results := [], args := [] }

/-- 'laws.FnExactSolvesMarkov': WHATEVER THE INPUT: true; the input reads as it did. -/
def fnExactSolvesMarkovSpec : ChangeSpec := { name := "fnExactSolvesMarkov", fn := fun _ => fun
  | [d] => { results := [.lit (.bool true)], args := [d] }
  | _ => none }
def fnExactSolvesMarkovRow : OpenClaim := { program := "ytmlnpnglafipbaa", sum := "587aec584357d6621c61b6077986f8b69f4f556f3bd841fa92d71d67748c68d5", func := "loop.example/g01122/laws.FnExactSolvesMarkov", spec := "fnExactSolvesMarkov", unfollowed := true, recurses := true, apart := false }
def FnExactSolvesMarkovSaid : Prop := fnExactSolvesMarkovRow.holds Try.pinned (OpenSpec.ofChange fnExactSolvesMarkovSpec)

/-- ITS FALSE NEIGHBOUR: 'it returns false'. Refute it at one input. -/
def fnExactSolvesMarkovWrong : ChangeSpec := { name := "fnExactSolvesMarkov", fn := fun _ => fun
  | [d] => { results := [.lit (.bool false)], args := [d] }
  | _ => none }
def FnExactSolvesMarkovWrongFalsely : Prop := fnExactSolvesMarkovRow.holds Try.pinned (OpenSpec.ofChange fnExactSolvesMarkovWrong)

/-- 'laws.FnExactIsMarkov': WHATEVER THE INPUT: true; the input reads as it did. -/
def fnExactIsMarkovSpec : ChangeSpec := { name := "fnExactIsMarkov", fn := fun _ => fun
  | [d] => { results := [.lit (.bool true)], args := [d] }
  | _ => none }
def fnExactIsMarkovRow : OpenClaim := { program := "ytmlnpnglafipbaa", sum := "587aec584357d6621c61b6077986f8b69f4f556f3bd841fa92d71d67748c68d5", func := "loop.example/g01122/laws.FnExactIsMarkov", spec := "fnExactIsMarkov", unfollowed := true, recurses := true, apart := false }
def FnExactIsMarkovSaid : Prop := fnExactIsMarkovRow.holds Try.pinned (OpenSpec.ofChange fnExactIsMarkovSpec)

/-- ITS FALSE NEIGHBOUR: 'it returns false'. Refute it at one input. -/
def fnExactIsMarkovWrong : ChangeSpec := { name := "fnExactIsMarkov", fn := fun _ => fun
  | [d] => { results := [.lit (.bool false)], args := [d] }
  | _ => none }
def FnExactIsMarkovWrongFalsely : Prop := fnExactIsMarkovRow.holds Try.pinned (OpenSpec.ofChange fnExactIsMarkovWrong)

/-- 'laws.FnExactMarkovMove': WHATEVER THE INPUT: true; the input reads as it did. -/
def fnExactMarkovMoveSpec : ChangeSpec := { name := "fnExactMarkovMove", fn := fun _ => fun
  | [d1, d2] => { results := [.lit (.bool true)], args := [d1, d2] }
  | _ => none }
def fnExactMarkovMoveRow : OpenClaim := { program := "ytmlnpnglafipbaa", sum := "587aec584357d6621c61b6077986f8b69f4f556f3bd841fa92d71d67748c68d5", func := "loop.example/g01122/laws.FnExactMarkovMove", spec := "fnExactMarkovMove", unfollowed := true, recurses := true, apart := false }
def FnExactMarkovMoveSaid : Prop := fnExactMarkovMoveRow.holds Try.pinned (OpenSpec.ofChange fnExactMarkovMoveSpec)

/-- ITS FALSE NEIGHBOUR: 'it returns false'. Refute it at one input. -/
def fnExactMarkovMoveWrong : ChangeSpec := { name := "fnExactMarkovMove", fn := fun _ => fun
  | [d1, d2] => { results := [.lit (.bool false)], args := [d1, d2] }
  | _ => none }
def FnExactMarkovMoveWrongFalsely : Prop := fnExactMarkovMoveRow.holds Try.pinned (OpenSpec.ofChange fnExactMarkovMoveWrong)

/-- 'laws.FnExactMarkovDown': WHATEVER THE INPUT: true; the input reads as it did. -/
def fnExactMarkovDownSpec : ChangeSpec := { name := "fnExactMarkovDown", fn := fun _ => fun
  | [d] => { results := [.lit (.bool true)], args := [d] }
  | _ => none }
def fnExactMarkovDownRow : OpenClaim := { program := "ytmlnpnglafipbaa", sum := "587aec584357d6621c61b6077986f8b69f4f556f3bd841fa92d71d67748c68d5", func := "loop.example/g01122/laws.FnExactMarkovDown", spec := "fnExactMarkovDown", unfollowed := true, recurses := true, apart := false }
def FnExactMarkovDownSaid : Prop := fnExactMarkovDownRow.holds Try.pinned (OpenSpec.ofChange fnExactMarkovDownSpec)

/-- ITS FALSE NEIGHBOUR: 'it returns false'. Refute it at one input. -/
def fnExactMarkovDownWrong : ChangeSpec := { name := "fnExactMarkovDown", fn := fun _ => fun
  | [d] => { results := [.lit (.bool false)], args := [d] }
  | _ => none }
def FnExactMarkovDownWrongFalsely : Prop := fnExactMarkovDownRow.holds Try.pinned (OpenSpec.ofChange fnExactMarkovDownWrong)

/-- 'laws.FnExactMarkovUp': WHATEVER THE INPUT: true; the input reads as it did. -/
def fnExactMarkovUpSpec : ChangeSpec := { name := "fnExactMarkovUp", fn := fun _ => fun
  | [d] => { results := [.lit (.bool true)], args := [d] }
  | _ => none }
def fnExactMarkovUpRow : OpenClaim := { program := "ytmlnpnglafipbaa", sum := "587aec584357d6621c61b6077986f8b69f4f556f3bd841fa92d71d67748c68d5", func := "loop.example/g01122/laws.FnExactMarkovUp", spec := "fnExactMarkovUp", unfollowed := true, recurses := true, apart := false }
def FnExactMarkovUpSaid : Prop := fnExactMarkovUpRow.holds Try.pinned (OpenSpec.ofChange fnExactMarkovUpSpec)

/-- ITS FALSE NEIGHBOUR: 'it returns false'. Refute it at one input. -/
def fnExactMarkovUpWrong : ChangeSpec := { name := "fnExactMarkovUp", fn := fun _ => fun
  | [d] => { results := [.lit (.bool false)], args := [d] }
  | _ => none }
def FnExactMarkovUpWrongFalsely : Prop := fnExactMarkovUpRow.holds Try.pinned (OpenSpec.ofChange fnExactMarkovUpWrong)

/-- 'laws.FnExactMarkovPath': WHATEVER THE INPUT: true; the input reads as it did. -/
def fnExactMarkovPathSpec : ChangeSpec := { name := "fnExactMarkovPath", fn := fun _ => fun
  | [d] => { results := [.lit (.bool true)], args := [d] }
  | _ => none }
def fnExactMarkovPathRow : OpenClaim := { program := "ytmlnpnglafipbaa", sum := "587aec584357d6621c61b6077986f8b69f4f556f3bd841fa92d71d67748c68d5", func := "loop.example/g01122/laws.FnExactMarkovPath", spec := "fnExactMarkovPath", unfollowed := true, recurses := true, apart := false }
def FnExactMarkovPathSaid : Prop := fnExactMarkovPathRow.holds Try.pinned (OpenSpec.ofChange fnExactMarkovPathSpec)

/-- ITS FALSE NEIGHBOUR: 'it returns false'. Refute it at one input. -/
def fnExactMarkovPathWrong : ChangeSpec := { name := "fnExactMarkovPath", fn := fun _ => fun
  | [d] => { results := [.lit (.bool false)], args := [d] }
  | _ => none }
def FnExactMarkovPathWrongFalsely : Prop := fnExactMarkovPathRow.holds Try.pinned (OpenSpec.ofChange fnExactMarkovPathWrong)

/-- 'laws.FnExactMarkovWord': WHATEVER THE INPUT: true; the input reads as it did. -/
def fnExactMarkovWordSpec : ChangeSpec := { name := "fnExactMarkovWord", fn := fun _ => fun
  | [d] => { results := [.lit (.bool true)], args := [d] }
  | _ => none }
def fnExactMarkovWordRow : OpenClaim := { program := "ytmlnpnglafipbaa", sum := "587aec584357d6621c61b6077986f8b69f4f556f3bd841fa92d71d67748c68d5", func := "loop.example/g01122/laws.FnExactMarkovWord", spec := "fnExactMarkovWord", unfollowed := true, recurses := true, apart := false }
def FnExactMarkovWordSaid : Prop := fnExactMarkovWordRow.holds Try.pinned (OpenSpec.ofChange fnExactMarkovWordSpec)

/-- ITS FALSE NEIGHBOUR: 'it returns false'. Refute it at one input. -/
def fnExactMarkovWordWrong : ChangeSpec := { name := "fnExactMarkovWord", fn := fun _ => fun
  | [d] => { results := [.lit (.bool false)], args := [d] }
  | _ => none }
def FnExactMarkovWordWrongFalsely : Prop := fnExactMarkovWordRow.holds Try.pinned (OpenSpec.ofChange fnExactMarkovWordWrong)

/-- 'laws.FnExactMinusOneRoot': WHATEVER THE INPUT: true; the input reads as it did. -/
def fnExactMinusOneRootSpec : ChangeSpec := { name := "fnExactMinusOneRoot", fn := fun _ => fun
  | [d] => { results := [.lit (.bool true)], args := [d] }
  | _ => none }
def fnExactMinusOneRootRow : OpenClaim := { program := "ytmlnpnglafipbaa", sum := "587aec584357d6621c61b6077986f8b69f4f556f3bd841fa92d71d67748c68d5", func := "loop.example/g01122/laws.FnExactMinusOneRoot", spec := "fnExactMinusOneRoot", unfollowed := true, recurses := true, apart := false }
def FnExactMinusOneRootSaid : Prop := fnExactMinusOneRootRow.holds Try.pinned (OpenSpec.ofChange fnExactMinusOneRootSpec)

/-- ITS FALSE NEIGHBOUR: 'it returns false'. Refute it at one input. -/
def fnExactMinusOneRootWrong : ChangeSpec := { name := "fnExactMinusOneRoot", fn := fun _ => fun
  | [d] => { results := [.lit (.bool false)], args := [d] }
  | _ => none }
def FnExactMinusOneRootWrongFalsely : Prop := fnExactMinusOneRootRow.holds Try.pinned (OpenSpec.ofChange fnExactMinusOneRootWrong)

/-- 'laws.FnExactModCount': WHATEVER THE INPUT: true; the input reads as it did. -/
def fnExactModCountSpec : ChangeSpec := { name := "fnExactModCount", fn := fun _ => fun
  | [d] => { results := [.lit (.bool true)], args := [d] }
  | _ => none }
def fnExactModCountRow : OpenClaim := { program := "ytmlnpnglafipbaa", sum := "587aec584357d6621c61b6077986f8b69f4f556f3bd841fa92d71d67748c68d5", func := "loop.example/g01122/laws.FnExactModCount", spec := "fnExactModCount", apart := false }
def FnExactModCountSaid : Prop := fnExactModCountRow.holds Try.pinned (OpenSpec.ofChange fnExactModCountSpec)

/-- ITS FALSE NEIGHBOUR: 'it returns false'. Refute it at one input. -/
def fnExactModCountWrong : ChangeSpec := { name := "fnExactModCount", fn := fun _ => fun
  | [d] => { results := [.lit (.bool false)], args := [d] }
  | _ => none }
def FnExactModCountWrongFalsely : Prop := fnExactModCountRow.holds Try.pinned (OpenSpec.ofChange fnExactModCountWrong)

/-- 'laws.FnExactModMove': WHATEVER THE INPUT: true; the input reads as it did. -/
def fnExactModMoveSpec : ChangeSpec := { name := "fnExactModMove", fn := fun _ => fun
  | [d1, d2, d3] => { results := [.lit (.bool true)], args := [d1, d2, d3] }
  | _ => none }
def fnExactModMoveRow : OpenClaim := { program := "ytmlnpnglafipbaa", sum := "587aec584357d6621c61b6077986f8b69f4f556f3bd841fa92d71d67748c68d5", func := "loop.example/g01122/laws.FnExactModMove", spec := "fnExactModMove", unfollowed := true, recurses := true, apart := false }
def FnExactModMoveSaid : Prop := fnExactModMoveRow.holds Try.pinned (OpenSpec.ofChange fnExactModMoveSpec)

/-- ITS FALSE NEIGHBOUR: 'it returns false'. Refute it at one input. -/
def fnExactModMoveWrong : ChangeSpec := { name := "fnExactModMove", fn := fun _ => fun
  | [d1, d2, d3] => { results := [.lit (.bool false)], args := [d1, d2, d3] }
  | _ => none }
def FnExactModMoveWrongFalsely : Prop := fnExactModMoveRow.holds Try.pinned (OpenSpec.ofChange fnExactModMoveWrong)

/- THE SECOND FORM. 'bulk': how many values and letters a reading holds, each counted each time it is reached (what is shared counts as often as it is met; a slice's spare places count too). A statement '..UptoSaid' is the law's where the arguments, and the package variables that the reading takes, are together of bulk at most 1048576: NARROWER than '..Said'. Prove '..Said' where nothing that the law and all that it calls make is longer than what came in: it says more and counts as full. Else prove '..UptoSaid'. A law counts once. -/
mutual
def uptoBulk {H : Type} : DataW H → Nat
  | .lit (.string bytes) => bytes.length + 1
  | .lit _ => 1
  | .nil => 1
  | .ptr d => uptoBulk d + 1
  | .slice elems spare => uptoBulkAll elems + uptoBulkAll spare + 1
  | .agg parts => uptoBulkAll parts + 1
  | .iface _ d => uptoBulk d + 1
  | .map entries => uptoBulkEntries entries + 1
  | .held _ => 1
def uptoBulkAll {H : Type} : List (DataW H) → Nat
  | [] => 0
  | d :: r => uptoBulk d + uptoBulkAll r
def uptoBulkEntries {H : Type} : List (Lit × DataW H) → Nat
  | [] => 0
  | x :: r => uptoBulkEntry x + uptoBulkEntries r
def uptoBulkEntry {H : Type} : Lit × DataW H → Nat
  | (.string bytes, d) => bytes.length + uptoBulk d + 1
  | (_, d) => uptoBulk d + 1
 end
def uptoSmall : (H : Type) → List (DataW H) → Bool := fun _ ds => decide (uptoBulkAll ds ≤ 1048576)
def OpenSpec.upto (s : _root_.Go.ChangeSpec) : _root_.Go.OpenSpec := { _root_.Go.OpenSpec.ofChange s with cond := some uptoSmall }

/-- 'laws.FnExactSolvesMarkov', WHERE WHAT IT READS IS OF BULK AT MOST 1048576: true; the input reads as it did. -/
def fnExactSolvesMarkovUptoRow : OpenClaim := { program := "ytmlnpnglafipbaa", sum := "587aec584357d6621c61b6077986f8b69f4f556f3bd841fa92d71d67748c68d5", func := "loop.example/g01122/laws.FnExactSolvesMarkov", spec := "fnExactSolvesMarkov", unfollowed := true, recurses := true, apart := false, narrowed := true }
def FnExactSolvesMarkovUptoSaid : Prop := fnExactSolvesMarkovUptoRow.holds Try.pinned (OpenSpec.upto fnExactSolvesMarkovSpec)

/-- 'laws.FnExactIsMarkov', WHERE WHAT IT READS IS OF BULK AT MOST 1048576: true; the input reads as it did. -/
def fnExactIsMarkovUptoRow : OpenClaim := { program := "ytmlnpnglafipbaa", sum := "587aec584357d6621c61b6077986f8b69f4f556f3bd841fa92d71d67748c68d5", func := "loop.example/g01122/laws.FnExactIsMarkov", spec := "fnExactIsMarkov", unfollowed := true, recurses := true, apart := false, narrowed := true }
def FnExactIsMarkovUptoSaid : Prop := fnExactIsMarkovUptoRow.holds Try.pinned (OpenSpec.upto fnExactIsMarkovSpec)

/-- 'laws.FnExactMarkovMove', WHERE WHAT IT READS IS OF BULK AT MOST 1048576: true; the input reads as it did. -/
def fnExactMarkovMoveUptoRow : OpenClaim := { program := "ytmlnpnglafipbaa", sum := "587aec584357d6621c61b6077986f8b69f4f556f3bd841fa92d71d67748c68d5", func := "loop.example/g01122/laws.FnExactMarkovMove", spec := "fnExactMarkovMove", unfollowed := true, recurses := true, apart := false, narrowed := true }
def FnExactMarkovMoveUptoSaid : Prop := fnExactMarkovMoveUptoRow.holds Try.pinned (OpenSpec.upto fnExactMarkovMoveSpec)

/-- 'laws.FnExactMarkovDown', WHERE WHAT IT READS IS OF BULK AT MOST 1048576: true; the input reads as it did. -/
def fnExactMarkovDownUptoRow : OpenClaim := { program := "ytmlnpnglafipbaa", sum := "587aec584357d6621c61b6077986f8b69f4f556f3bd841fa92d71d67748c68d5", func := "loop.example/g01122/laws.FnExactMarkovDown", spec := "fnExactMarkovDown", unfollowed := true, recurses := true, apart := false, narrowed := true }
def FnExactMarkovDownUptoSaid : Prop := fnExactMarkovDownUptoRow.holds Try.pinned (OpenSpec.upto fnExactMarkovDownSpec)

/-- 'laws.FnExactMarkovUp', WHERE WHAT IT READS IS OF BULK AT MOST 1048576: true; the input reads as it did. -/
def fnExactMarkovUpUptoRow : OpenClaim := { program := "ytmlnpnglafipbaa", sum := "587aec584357d6621c61b6077986f8b69f4f556f3bd841fa92d71d67748c68d5", func := "loop.example/g01122/laws.FnExactMarkovUp", spec := "fnExactMarkovUp", unfollowed := true, recurses := true, apart := false, narrowed := true }
def FnExactMarkovUpUptoSaid : Prop := fnExactMarkovUpUptoRow.holds Try.pinned (OpenSpec.upto fnExactMarkovUpSpec)

/-- 'laws.FnExactMarkovPath', WHERE WHAT IT READS IS OF BULK AT MOST 1048576: true; the input reads as it did. -/
def fnExactMarkovPathUptoRow : OpenClaim := { program := "ytmlnpnglafipbaa", sum := "587aec584357d6621c61b6077986f8b69f4f556f3bd841fa92d71d67748c68d5", func := "loop.example/g01122/laws.FnExactMarkovPath", spec := "fnExactMarkovPath", unfollowed := true, recurses := true, apart := false, narrowed := true }
def FnExactMarkovPathUptoSaid : Prop := fnExactMarkovPathUptoRow.holds Try.pinned (OpenSpec.upto fnExactMarkovPathSpec)

/-- 'laws.FnExactMarkovWord', WHERE WHAT IT READS IS OF BULK AT MOST 1048576: true; the input reads as it did. -/
def fnExactMarkovWordUptoRow : OpenClaim := { program := "ytmlnpnglafipbaa", sum := "587aec584357d6621c61b6077986f8b69f4f556f3bd841fa92d71d67748c68d5", func := "loop.example/g01122/laws.FnExactMarkovWord", spec := "fnExactMarkovWord", unfollowed := true, recurses := true, apart := false, narrowed := true }
def FnExactMarkovWordUptoSaid : Prop := fnExactMarkovWordUptoRow.holds Try.pinned (OpenSpec.upto fnExactMarkovWordSpec)

/-- 'laws.FnExactMinusOneRoot', WHERE WHAT IT READS IS OF BULK AT MOST 1048576: true; the input reads as it did. -/
def fnExactMinusOneRootUptoRow : OpenClaim := { program := "ytmlnpnglafipbaa", sum := "587aec584357d6621c61b6077986f8b69f4f556f3bd841fa92d71d67748c68d5", func := "loop.example/g01122/laws.FnExactMinusOneRoot", spec := "fnExactMinusOneRoot", unfollowed := true, recurses := true, apart := false, narrowed := true }
def FnExactMinusOneRootUptoSaid : Prop := fnExactMinusOneRootUptoRow.holds Try.pinned (OpenSpec.upto fnExactMinusOneRootSpec)

/-- 'laws.FnExactModCount', WHERE WHAT IT READS IS OF BULK AT MOST 1048576: true; the input reads as it did. -/
def fnExactModCountUptoRow : OpenClaim := { program := "ytmlnpnglafipbaa", sum := "587aec584357d6621c61b6077986f8b69f4f556f3bd841fa92d71d67748c68d5", func := "loop.example/g01122/laws.FnExactModCount", spec := "fnExactModCount", apart := false, narrowed := true }
def FnExactModCountUptoSaid : Prop := fnExactModCountUptoRow.holds Try.pinned (OpenSpec.upto fnExactModCountSpec)

/-- 'laws.FnExactModMove', WHERE WHAT IT READS IS OF BULK AT MOST 1048576: true; the input reads as it did. -/
def fnExactModMoveUptoRow : OpenClaim := { program := "ytmlnpnglafipbaa", sum := "587aec584357d6621c61b6077986f8b69f4f556f3bd841fa92d71d67748c68d5", func := "loop.example/g01122/laws.FnExactModMove", spec := "fnExactModMove", unfollowed := true, recurses := true, apart := false, narrowed := true }
def FnExactModMoveUptoSaid : Prop := fnExactModMoveUptoRow.holds Try.pinned (OpenSpec.upto fnExactModMoveSpec)

end Rows
end Go.Proofs.Ytmlnpnglafipbaa
