/-
  No cell of these rows narrows 'for every input' (looked for: loops, veiled, ifaces, maps, wideKeys, modest, calm, conditions, laid).
  DERIVED. THE GIVEN ROWS OF THIS SEAT. 8 by the template 'for every input the law returns true; each argument reads behind the call as it read before'; 0 by the template 'total and deterministic' (their statements: YtjnhhjnfdaaaeabTotals.lean).
  GIVEN WITH THE SEED: the statements are not yours to turn. If you find one false, say at which input.
  Laid BY PROGRAM, IN A SANDBOX (cutbox-rows.mjs): the forced cells as the released guide's own fill.sh prints them over the translation 83504f546f49dc64… (all of the seat's roots in one cut). By AI agents, Wed Nov 11 2026. No macro, syntax, notation, axiom, sorry.
-/
import Derived.Test.YtjnhhjnfdaaaeabChecked
import GoSem.Claim
import GoSem.ClaimJoined
import GoSem.ClaimMapViews
import Derived.JoinedTies
import Derived.KernelRfl
namespace Go.Proofs.Ytjnhhjnfdaaaeab
/- THE CELL 'sum', in the pinned program and in every row, IS THE sha256 OF THE DUMP (.gsa) THAT YtjnhhjnfdaaaeabProg.lean LOADS. Nothing in Lean hashes anything: it is a label: what it is worth is what the hold of that sum in a sandbox is worth. -/
noncomputable def Try.pinned : Pinned := { name := "ytjnhhjnfdaaaeab", sum := "83504f546f49dc64c69ebd7d784d33ae1987385c0b55d1bbfdef1c7272d31486", checked := Try.checked }
namespace Rows
def none {H : Type} : Left H := { results := [], args := [] }

/-- 'laws.FnExactTreeUpTo': WHATEVER THE INPUT: true; the input reads as it did. -/
def fnExactTreeUpToSpec : ChangeSpec := { name := "fnExactTreeUpTo", fn := fun _ => fun
  | [d1, d2, d3, d4] => { results := [.lit (.bool true)], args := [d1, d2, d3, d4] }
  | _ => none }
def fnExactTreeUpToRow : OpenClaim := { program := "ytjnhhjnfdaaaeab", sum := "83504f546f49dc64c69ebd7d784d33ae1987385c0b55d1bbfdef1c7272d31486", func := "loop.example/g01122/laws.FnExactTreeUpTo", spec := "fnExactTreeUpTo", unfollowed := true, recurses := true, plainKeys := false, apart := false }
def FnExactTreeUpToSaid : Prop := fnExactTreeUpToRow.holds Try.pinned (OpenSpec.ofChange fnExactTreeUpToSpec)

/-- ITS FALSE NEIGHBOUR: 'it returns false'. Refute it at one input. -/
def fnExactTreeUpToWrong : ChangeSpec := { name := "fnExactTreeUpTo", fn := fun _ => fun
  | [d1, d2, d3, d4] => { results := [.lit (.bool false)], args := [d1, d2, d3, d4] }
  | _ => none }
def FnExactTreeUpToWrongFalsely : Prop := fnExactTreeUpToRow.holds Try.pinned (OpenSpec.ofChange fnExactTreeUpToWrong)

/-- 'laws.FnExactMarkovPath': WHATEVER THE INPUT: true; the input reads as it did. -/
def fnExactMarkovPathSpec : ChangeSpec := { name := "fnExactMarkovPath", fn := fun _ => fun
  | [d] => { results := [.lit (.bool true)], args := [d] }
  | _ => none }
def fnExactMarkovPathRow : OpenClaim := { program := "ytjnhhjnfdaaaeab", sum := "83504f546f49dc64c69ebd7d784d33ae1987385c0b55d1bbfdef1c7272d31486", func := "loop.example/g01122/laws.FnExactMarkovPath", spec := "fnExactMarkovPath", unfollowed := true, recurses := true, plainKeys := false, apart := false }
def FnExactMarkovPathSaid : Prop := fnExactMarkovPathRow.holds Try.pinned (OpenSpec.ofChange fnExactMarkovPathSpec)

/-- ITS FALSE NEIGHBOUR: 'it returns false'. Refute it at one input. -/
def fnExactMarkovPathWrong : ChangeSpec := { name := "fnExactMarkovPath", fn := fun _ => fun
  | [d] => { results := [.lit (.bool false)], args := [d] }
  | _ => none }
def FnExactMarkovPathWrongFalsely : Prop := fnExactMarkovPathRow.holds Try.pinned (OpenSpec.ofChange fnExactMarkovPathWrong)

/-- 'laws.FnExactMarkovUp': WHATEVER THE INPUT: true; the input reads as it did. -/
def fnExactMarkovUpSpec : ChangeSpec := { name := "fnExactMarkovUp", fn := fun _ => fun
  | [d] => { results := [.lit (.bool true)], args := [d] }
  | _ => none }
def fnExactMarkovUpRow : OpenClaim := { program := "ytjnhhjnfdaaaeab", sum := "83504f546f49dc64c69ebd7d784d33ae1987385c0b55d1bbfdef1c7272d31486", func := "loop.example/g01122/laws.FnExactMarkovUp", spec := "fnExactMarkovUp", unfollowed := true, recurses := true, plainKeys := false, apart := false }
def FnExactMarkovUpSaid : Prop := fnExactMarkovUpRow.holds Try.pinned (OpenSpec.ofChange fnExactMarkovUpSpec)

/-- ITS FALSE NEIGHBOUR: 'it returns false'. Refute it at one input. -/
def fnExactMarkovUpWrong : ChangeSpec := { name := "fnExactMarkovUp", fn := fun _ => fun
  | [d] => { results := [.lit (.bool false)], args := [d] }
  | _ => none }
def FnExactMarkovUpWrongFalsely : Prop := fnExactMarkovUpRow.holds Try.pinned (OpenSpec.ofChange fnExactMarkovUpWrong)

/-- 'laws.FnExactMarkovUpTo': WHATEVER THE INPUT: true; the input reads as it did. -/
def fnExactMarkovUpToSpec : ChangeSpec := { name := "fnExactMarkovUpTo", fn := fun _ => fun
  | [d] => { results := [.lit (.bool true)], args := [d] }
  | _ => none }
def fnExactMarkovUpToRow : OpenClaim := { program := "ytjnhhjnfdaaaeab", sum := "83504f546f49dc64c69ebd7d784d33ae1987385c0b55d1bbfdef1c7272d31486", func := "loop.example/g01122/laws.FnExactMarkovUpTo", spec := "fnExactMarkovUpTo", unfollowed := true, recurses := true, plainKeys := false, apart := false }
def FnExactMarkovUpToSaid : Prop := fnExactMarkovUpToRow.holds Try.pinned (OpenSpec.ofChange fnExactMarkovUpToSpec)

/-- ITS FALSE NEIGHBOUR: 'it returns false'. Refute it at one input. -/
def fnExactMarkovUpToWrong : ChangeSpec := { name := "fnExactMarkovUpTo", fn := fun _ => fun
  | [d] => { results := [.lit (.bool false)], args := [d] }
  | _ => none }
def FnExactMarkovUpToWrongFalsely : Prop := fnExactMarkovUpToRow.holds Try.pinned (OpenSpec.ofChange fnExactMarkovUpToWrong)

/-- 'laws.FnExactMarkovNumbersUpTo': WHATEVER THE INPUT: true; the input reads as it did. -/
def fnExactMarkovNumbersUpToSpec : ChangeSpec := { name := "fnExactMarkovNumbersUpTo", fn := fun _ => fun
  | [d] => { results := [.lit (.bool true)], args := [d] }
  | _ => none }
def fnExactMarkovNumbersUpToRow : OpenClaim := { program := "ytjnhhjnfdaaaeab", sum := "83504f546f49dc64c69ebd7d784d33ae1987385c0b55d1bbfdef1c7272d31486", func := "loop.example/g01122/laws.FnExactMarkovNumbersUpTo", spec := "fnExactMarkovNumbersUpTo", unfollowed := true, recurses := true, plainKeys := false, apart := false }
def FnExactMarkovNumbersUpToSaid : Prop := fnExactMarkovNumbersUpToRow.holds Try.pinned (OpenSpec.ofChange fnExactMarkovNumbersUpToSpec)

/-- ITS FALSE NEIGHBOUR: 'it returns false'. Refute it at one input. -/
def fnExactMarkovNumbersUpToWrong : ChangeSpec := { name := "fnExactMarkovNumbersUpTo", fn := fun _ => fun
  | [d] => { results := [.lit (.bool false)], args := [d] }
  | _ => none }
def FnExactMarkovNumbersUpToWrongFalsely : Prop := fnExactMarkovNumbersUpToRow.holds Try.pinned (OpenSpec.ofChange fnExactMarkovNumbersUpToWrong)

/-- 'laws.FnExactIsMarkovNumber': WHATEVER THE INPUT: true; the input reads as it did. -/
def fnExactIsMarkovNumberSpec : ChangeSpec := { name := "fnExactIsMarkovNumber", fn := fun _ => fun
  | [d] => { results := [.lit (.bool true)], args := [d] }
  | _ => none }
def fnExactIsMarkovNumberRow : OpenClaim := { program := "ytjnhhjnfdaaaeab", sum := "83504f546f49dc64c69ebd7d784d33ae1987385c0b55d1bbfdef1c7272d31486", func := "loop.example/g01122/laws.FnExactIsMarkovNumber", spec := "fnExactIsMarkovNumber", unfollowed := true, recurses := true, plainKeys := false, apart := false }
def FnExactIsMarkovNumberSaid : Prop := fnExactIsMarkovNumberRow.holds Try.pinned (OpenSpec.ofChange fnExactIsMarkovNumberSpec)

/-- ITS FALSE NEIGHBOUR: 'it returns false'. Refute it at one input. -/
def fnExactIsMarkovNumberWrong : ChangeSpec := { name := "fnExactIsMarkovNumber", fn := fun _ => fun
  | [d] => { results := [.lit (.bool false)], args := [d] }
  | _ => none }
def FnExactIsMarkovNumberWrongFalsely : Prop := fnExactIsMarkovNumberRow.holds Try.pinned (OpenSpec.ofChange fnExactIsMarkovNumberWrong)

/-- 'laws.FnExactTriplesWith': WHATEVER THE INPUT: true; the input reads as it did. -/
def fnExactTriplesWithSpec : ChangeSpec := { name := "fnExactTriplesWith", fn := fun _ => fun
  | [d] => { results := [.lit (.bool true)], args := [d] }
  | _ => none }
def fnExactTriplesWithRow : OpenClaim := { program := "ytjnhhjnfdaaaeab", sum := "83504f546f49dc64c69ebd7d784d33ae1987385c0b55d1bbfdef1c7272d31486", func := "loop.example/g01122/laws.FnExactTriplesWith", spec := "fnExactTriplesWith", unfollowed := true, recurses := true, plainKeys := false, apart := false }
def FnExactTriplesWithSaid : Prop := fnExactTriplesWithRow.holds Try.pinned (OpenSpec.ofChange fnExactTriplesWithSpec)

/-- ITS FALSE NEIGHBOUR: 'it returns false'. Refute it at one input. -/
def fnExactTriplesWithWrong : ChangeSpec := { name := "fnExactTriplesWith", fn := fun _ => fun
  | [d] => { results := [.lit (.bool false)], args := [d] }
  | _ => none }
def FnExactTriplesWithWrongFalsely : Prop := fnExactTriplesWithRow.holds Try.pinned (OpenSpec.ofChange fnExactTriplesWithWrong)

/-- 'laws.FnExactModOrbit': WHATEVER THE INPUT: true; the input reads as it did. -/
def fnExactModOrbitSpec : ChangeSpec := { name := "fnExactModOrbit", fn := fun _ => fun
  | [d1, d2] => { results := [.lit (.bool true)], args := [d1, d2] }
  | _ => none }
def fnExactModOrbitRow : OpenClaim := { program := "ytjnhhjnfdaaaeab", sum := "83504f546f49dc64c69ebd7d784d33ae1987385c0b55d1bbfdef1c7272d31486", func := "loop.example/g01122/laws.FnExactModOrbit", spec := "fnExactModOrbit", unfollowed := true, recurses := true, plainKeys := false, apart := false }
def FnExactModOrbitSaid : Prop := fnExactModOrbitRow.holds Try.pinned (OpenSpec.ofChange fnExactModOrbitSpec)

/-- ITS FALSE NEIGHBOUR: 'it returns false'. Refute it at one input. -/
def fnExactModOrbitWrong : ChangeSpec := { name := "fnExactModOrbit", fn := fun _ => fun
  | [d1, d2] => { results := [.lit (.bool false)], args := [d1, d2] }
  | _ => none }
def FnExactModOrbitWrongFalsely : Prop := fnExactModOrbitRow.holds Try.pinned (OpenSpec.ofChange fnExactModOrbitWrong)

/- THE SECOND FORM. 'bulk': how many values and letters a reading holds, each counted each time it is reached (what is shared counts as often as it is met; a slice's spare places count too). A statement '..UptoSaid' is the law's where the arguments, and the package variables that the reading takes, are together of bulk at most 1048576: NARROWER than '..Said'. Prove '..Said' where nothing that the law and all that it calls make is longer than what came in: it says more and counts as full. Else prove '..UptoSaid'. A law counts once. -/
mutual
def uptoBulk {H : Type} : DataW H → Nat
  | .lit (.string bytes) => bytes.length + 1
  | .lit _ => 1
  | .nil => 1
  | .ptr d => uptoBulk d + 1
  | .slice elems spare => uptoBulkAll elems + uptoBulkAll spare + 1
  | .agg parts => uptoBulkAll parts + 1
  | .iface _ d => uptoBulk d + 1
  | .map entries => uptoBulkEntries entries + 1
  | .held _ => 1
def uptoBulkAll {H : Type} : List (DataW H) → Nat
  | [] => 0
  | d :: r => uptoBulk d + uptoBulkAll r
def uptoBulkEntries {H : Type} : List (Lit × DataW H) → Nat
  | [] => 0
  | x :: r => uptoBulkEntry x + uptoBulkEntries r
def uptoBulkEntry {H : Type} : Lit × DataW H → Nat
  | (.string bytes, d) => bytes.length + uptoBulk d + 1
  | (_, d) => uptoBulk d + 1
 end
def uptoSmall : (H : Type) → List (DataW H) → Bool := fun _ ds => decide (uptoBulkAll ds ≤ 1048576)
def OpenSpec.upto (s : _root_.Go.ChangeSpec) : _root_.Go.OpenSpec := { _root_.Go.OpenSpec.ofChange s with cond := some uptoSmall }

/-- 'laws.FnExactTreeUpTo', WHERE WHAT IT READS IS OF BULK AT MOST 1048576: true; the input reads as it did. -/
def fnExactTreeUpToUptoRow : OpenClaim := { program := "ytjnhhjnfdaaaeab", sum := "83504f546f49dc64c69ebd7d784d33ae1987385c0b55d1bbfdef1c7272d31486", func := "loop.example/g01122/laws.FnExactTreeUpTo", spec := "fnExactTreeUpTo", unfollowed := true, recurses := true, plainKeys := false, apart := false, narrowed := true }
def FnExactTreeUpToUptoSaid : Prop := fnExactTreeUpToUptoRow.holds Try.pinned (OpenSpec.upto fnExactTreeUpToSpec)

/-- 'laws.FnExactMarkovPath', WHERE WHAT IT READS IS OF BULK AT MOST 1048576: true; the input reads as it did. -/
def fnExactMarkovPathUptoRow : OpenClaim := { program := "ytjnhhjnfdaaaeab", sum := "83504f546f49dc64c69ebd7d784d33ae1987385c0b55d1bbfdef1c7272d31486", func := "loop.example/g01122/laws.FnExactMarkovPath", spec := "fnExactMarkovPath", unfollowed := true, recurses := true, plainKeys := false, apart := false, narrowed := true }
def FnExactMarkovPathUptoSaid : Prop := fnExactMarkovPathUptoRow.holds Try.pinned (OpenSpec.upto fnExactMarkovPathSpec)

/-- 'laws.FnExactMarkovUp', WHERE WHAT IT READS IS OF BULK AT MOST 1048576: true; the input reads as it did. -/
def fnExactMarkovUpUptoRow : OpenClaim := { program := "ytjnhhjnfdaaaeab", sum := "83504f546f49dc64c69ebd7d784d33ae1987385c0b55d1bbfdef1c7272d31486", func := "loop.example/g01122/laws.FnExactMarkovUp", spec := "fnExactMarkovUp", unfollowed := true, recurses := true, plainKeys := false, apart := false, narrowed := true }
def FnExactMarkovUpUptoSaid : Prop := fnExactMarkovUpUptoRow.holds Try.pinned (OpenSpec.upto fnExactMarkovUpSpec)

/-- 'laws.FnExactMarkovUpTo', WHERE WHAT IT READS IS OF BULK AT MOST 1048576: true; the input reads as it did. -/
def fnExactMarkovUpToUptoRow : OpenClaim := { program := "ytjnhhjnfdaaaeab", sum := "83504f546f49dc64c69ebd7d784d33ae1987385c0b55d1bbfdef1c7272d31486", func := "loop.example/g01122/laws.FnExactMarkovUpTo", spec := "fnExactMarkovUpTo", unfollowed := true, recurses := true, plainKeys := false, apart := false, narrowed := true }
def FnExactMarkovUpToUptoSaid : Prop := fnExactMarkovUpToUptoRow.holds Try.pinned (OpenSpec.upto fnExactMarkovUpToSpec)

/-- 'laws.FnExactMarkovNumbersUpTo', WHERE WHAT IT READS IS OF BULK AT MOST 1048576: true; the input reads as it did. -/
def fnExactMarkovNumbersUpToUptoRow : OpenClaim := { program := "ytjnhhjnfdaaaeab", sum := "83504f546f49dc64c69ebd7d784d33ae1987385c0b55d1bbfdef1c7272d31486", func := "loop.example/g01122/laws.FnExactMarkovNumbersUpTo", spec := "fnExactMarkovNumbersUpTo", unfollowed := true, recurses := true, plainKeys := false, apart := false, narrowed := true }
def FnExactMarkovNumbersUpToUptoSaid : Prop := fnExactMarkovNumbersUpToUptoRow.holds Try.pinned (OpenSpec.upto fnExactMarkovNumbersUpToSpec)

/-- 'laws.FnExactIsMarkovNumber', WHERE WHAT IT READS IS OF BULK AT MOST 1048576: true; the input reads as it did. -/
def fnExactIsMarkovNumberUptoRow : OpenClaim := { program := "ytjnhhjnfdaaaeab", sum := "83504f546f49dc64c69ebd7d784d33ae1987385c0b55d1bbfdef1c7272d31486", func := "loop.example/g01122/laws.FnExactIsMarkovNumber", spec := "fnExactIsMarkovNumber", unfollowed := true, recurses := true, plainKeys := false, apart := false, narrowed := true }
def FnExactIsMarkovNumberUptoSaid : Prop := fnExactIsMarkovNumberUptoRow.holds Try.pinned (OpenSpec.upto fnExactIsMarkovNumberSpec)

/-- 'laws.FnExactTriplesWith', WHERE WHAT IT READS IS OF BULK AT MOST 1048576: true; the input reads as it did. -/
def fnExactTriplesWithUptoRow : OpenClaim := { program := "ytjnhhjnfdaaaeab", sum := "83504f546f49dc64c69ebd7d784d33ae1987385c0b55d1bbfdef1c7272d31486", func := "loop.example/g01122/laws.FnExactTriplesWith", spec := "fnExactTriplesWith", unfollowed := true, recurses := true, plainKeys := false, apart := false, narrowed := true }
def FnExactTriplesWithUptoSaid : Prop := fnExactTriplesWithUptoRow.holds Try.pinned (OpenSpec.upto fnExactTriplesWithSpec)

/-- 'laws.FnExactModOrbit', WHERE WHAT IT READS IS OF BULK AT MOST 1048576: true; the input reads as it did. -/
def fnExactModOrbitUptoRow : OpenClaim := { program := "ytjnhhjnfdaaaeab", sum := "83504f546f49dc64c69ebd7d784d33ae1987385c0b55d1bbfdef1c7272d31486", func := "loop.example/g01122/laws.FnExactModOrbit", spec := "fnExactModOrbit", unfollowed := true, recurses := true, plainKeys := false, apart := false, narrowed := true }
def FnExactModOrbitUptoSaid : Prop := fnExactModOrbitUptoRow.holds Try.pinned (OpenSpec.upto fnExactModOrbitSpec)

end Rows
end Go.Proofs.Ytjnhhjnfdaaaeab
