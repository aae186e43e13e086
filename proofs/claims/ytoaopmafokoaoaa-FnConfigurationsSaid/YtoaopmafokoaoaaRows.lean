/-
  No cell of these rows narrows 'for every input' (looked for: loops, veiled, ifaces, maps, wideKeys, modest, calm, conditions, laid).
  DERIVED. THE GIVEN ROWS OF THIS SEAT. 3 by the template 'for every input the law returns true; each argument reads behind the call as it read before'; 0 by the template 'total and deterministic' (their statements: YtoaopmafokoaoaaTotals.lean).
  GIVEN WITH THE SEED: the statements are not yours to turn. If you find one false, say at which input.
  Laid BY PROGRAM, IN A SANDBOX (cutbox-rows.mjs): the forced cells as the released guide's own fill.sh prints them over the translation 1212c8bf9c8629a2… (all of the seat's roots in one cut). By AI agents, Wed Nov 11 2026. No macro, syntax, notation, axiom, sorry.
-/
import Derived.Test.YtoaopmafokoaoaaChecked
import GoSem.Claim
import GoSem.ClaimJoined
import GoSem.ClaimMapViews
import Derived.JoinedTies
import Derived.KernelRfl
namespace Go.Proofs.Ytoaopmafokoaoaa
/- THE CELL 'sum', in the pinned program and in every row, IS THE sha256 OF THE DUMP (.gsa) THAT YtoaopmafokoaoaaProg.lean LOADS. Nothing in Lean hashes anything: it is a label: what it is worth is what the hold of that sum in a sandbox is worth. -/
noncomputable def Try.pinned : Pinned := { name := "ytoaopmafokoaoaa", sum := "1212c8bf9c8629a2baf2a426f78d88f6a8b83d6d309d9ac6039b2044ba94809d", checked := Try.checked }
namespace Rows
def none {H : Type} : Left H := { results := [], args := [] }

/-- 'laws.FnTreesOfHurwitz': WHATEVER THE INPUT: true; the input reads as it did. -/
def fnTreesOfHurwitzSpec : ChangeSpec := { name := "fnTreesOfHurwitz", fn := fun _ => fun
  | [d1, d2] => { results := [.lit (.bool true)], args := [d1, d2] }
  | _ => none }
def fnTreesOfHurwitzRow : OpenClaim := { program := "ytoaopmafokoaoaa", sum := "1212c8bf9c8629a2baf2a426f78d88f6a8b83d6d309d9ac6039b2044ba94809d", func := "loop.example/g01122/laws.FnTreesOfHurwitz", spec := "fnTreesOfHurwitz", unfollowed := true, recurses := true, apart := false }
def FnTreesOfHurwitzSaid : Prop := fnTreesOfHurwitzRow.holds Try.pinned (OpenSpec.ofChange fnTreesOfHurwitzSpec)

/-- ITS FALSE NEIGHBOUR: 'it returns false'. Refute it at one input. -/
def fnTreesOfHurwitzWrong : ChangeSpec := { name := "fnTreesOfHurwitz", fn := fun _ => fun
  | [d1, d2] => { results := [.lit (.bool false)], args := [d1, d2] }
  | _ => none }
def FnTreesOfHurwitzWrongFalsely : Prop := fnTreesOfHurwitzRow.holds Try.pinned (OpenSpec.ofChange fnTreesOfHurwitzWrong)

/-- 'laws.FnAllHurwitz': WHATEVER THE INPUT: true; the input reads as it did. -/
def fnAllHurwitzSpec : ChangeSpec := { name := "fnAllHurwitz", fn := fun _ => fun
  | [d1, d2] => { results := [.lit (.bool true)], args := [d1, d2] }
  | _ => none }
def fnAllHurwitzRow : OpenClaim := { program := "ytoaopmafokoaoaa", sum := "1212c8bf9c8629a2baf2a426f78d88f6a8b83d6d309d9ac6039b2044ba94809d", func := "loop.example/g01122/laws.FnAllHurwitz", spec := "fnAllHurwitz", unfollowed := true, recurses := true, apart := false }
def FnAllHurwitzSaid : Prop := fnAllHurwitzRow.holds Try.pinned (OpenSpec.ofChange fnAllHurwitzSpec)

/-- ITS FALSE NEIGHBOUR: 'it returns false'. Refute it at one input. -/
def fnAllHurwitzWrong : ChangeSpec := { name := "fnAllHurwitz", fn := fun _ => fun
  | [d1, d2] => { results := [.lit (.bool false)], args := [d1, d2] }
  | _ => none }
def FnAllHurwitzWrongFalsely : Prop := fnAllHurwitzRow.holds Try.pinned (OpenSpec.ofChange fnAllHurwitzWrong)

/-- 'laws.FnConfigurations': WHATEVER THE INPUT: true; the input reads as it did. -/
def fnConfigurationsSpec : ChangeSpec := { name := "fnConfigurations", fn := fun _ => fun
  | [d1, d2] => { results := [.lit (.bool true)], args := [d1, d2] }
  | _ => none }
def fnConfigurationsRow : OpenClaim := { program := "ytoaopmafokoaoaa", sum := "1212c8bf9c8629a2baf2a426f78d88f6a8b83d6d309d9ac6039b2044ba94809d", func := "loop.example/g01122/laws.FnConfigurations", spec := "fnConfigurations", unfollowed := true, recurses := true, apart := false }
def FnConfigurationsSaid : Prop := fnConfigurationsRow.holds Try.pinned (OpenSpec.ofChange fnConfigurationsSpec)

/-- ITS FALSE NEIGHBOUR: 'it returns false'. Refute it at one input. -/
def fnConfigurationsWrong : ChangeSpec := { name := "fnConfigurations", fn := fun _ => fun
  | [d1, d2] => { results := [.lit (.bool false)], args := [d1, d2] }
  | _ => none }
def FnConfigurationsWrongFalsely : Prop := fnConfigurationsRow.holds Try.pinned (OpenSpec.ofChange fnConfigurationsWrong)

/- THE SECOND FORM. 'bulk': how many values and letters a reading holds, each counted each time it is reached (what is shared counts as often as it is met; a slice's spare places count too). A statement '..UptoSaid' is the law's where the arguments, and the package variables that the reading takes, are together of bulk at most 1048576: NARROWER than '..Said'. Prove '..Said' where nothing that the law and all that it calls make is longer than what came in: it says more and counts as full. Else prove '..UptoSaid'. A law counts once. -/
mutual
def uptoBulk {H : Type} : DataW H → Nat
  | .lit (.string bytes) => bytes.length + 1
  | .lit _ => 1
  | .nil => 1
  | .ptr d => uptoBulk d + 1
  | .slice elems spare => uptoBulkAll elems + uptoBulkAll spare + 1
  | .agg parts => uptoBulkAll parts + 1
  | .iface _ d => uptoBulk d + 1
  | .map entries => uptoBulkEntries entries + 1
  | .held _ => 1
def uptoBulkAll {H : Type} : List (DataW H) → Nat
  | [] => 0
  | d :: r => uptoBulk d + uptoBulkAll r
def uptoBulkEntries {H : Type} : List (Lit × DataW H) → Nat
  | [] => 0
  | x :: r => uptoBulkEntry x + uptoBulkEntries r
def uptoBulkEntry {H : Type} : Lit × DataW H → Nat
  | (.string bytes, d) => bytes.length + uptoBulk d + 1
  | (_, d) => uptoBulk d + 1
 end
def uptoSmall : (H : Type) → List (DataW H) → Bool := fun _ ds => decide (uptoBulkAll ds ≤ 1048576)
def OpenSpec.upto (s : _root_.Go.ChangeSpec) : _root_.Go.OpenSpec := { _root_.Go.OpenSpec.ofChange s with cond := some uptoSmall }

/-- 'laws.FnTreesOfHurwitz', WHERE WHAT IT READS IS OF BULK AT MOST 1048576: true; the input reads as it did. -/
def fnTreesOfHurwitzUptoRow : OpenClaim := { program := "ytoaopmafokoaoaa", sum := "1212c8bf9c8629a2baf2a426f78d88f6a8b83d6d309d9ac6039b2044ba94809d", func := "loop.example/g01122/laws.FnTreesOfHurwitz", spec := "fnTreesOfHurwitz", unfollowed := true, recurses := true, apart := false, narrowed := true }
def FnTreesOfHurwitzUptoSaid : Prop := fnTreesOfHurwitzUptoRow.holds Try.pinned (OpenSpec.upto fnTreesOfHurwitzSpec)

/-- 'laws.FnAllHurwitz', WHERE WHAT IT READS IS OF BULK AT MOST 1048576: true; the input reads as it did. -/
def fnAllHurwitzUptoRow : OpenClaim := { program := "ytoaopmafokoaoaa", sum := "1212c8bf9c8629a2baf2a426f78d88f6a8b83d6d309d9ac6039b2044ba94809d", func := "loop.example/g01122/laws.FnAllHurwitz", spec := "fnAllHurwitz", unfollowed := true, recurses := true, apart := false, narrowed := true }
def FnAllHurwitzUptoSaid : Prop := fnAllHurwitzUptoRow.holds Try.pinned (OpenSpec.upto fnAllHurwitzSpec)

/-- 'laws.FnConfigurations', WHERE WHAT IT READS IS OF BULK AT MOST 1048576: true; the input reads as it did. -/
def fnConfigurationsUptoRow : OpenClaim := { program := "ytoaopmafokoaoaa", sum := "1212c8bf9c8629a2baf2a426f78d88f6a8b83d6d309d9ac6039b2044ba94809d", func := "loop.example/g01122/laws.FnConfigurations", spec := "fnConfigurations", unfollowed := true, recurses := true, apart := false, narrowed := true }
def FnConfigurationsUptoSaid : Prop := fnConfigurationsUptoRow.holds Try.pinned (OpenSpec.upto fnConfigurationsSpec)

end Rows
end Go.Proofs.Ytoaopmafokoaoaa
