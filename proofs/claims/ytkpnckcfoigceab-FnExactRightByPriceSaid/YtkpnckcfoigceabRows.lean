/-
  No cell of these rows narrows 'for every input' (looked for: loops, veiled, ifaces, maps, wideKeys, modest, calm, conditions, laid).
  DERIVED. THE GIVEN ROWS OF THIS SEAT. 3 by the template 'for every input the law returns true; each argument reads behind the call as it read before'; 0 by the template 'total and deterministic' (their statements: YtkpnckcfoigceabTotals.lean).
  GIVEN WITH THE SEED: the statements are not yours to turn. If you find one false, say at which input.
  Laid BY PROGRAM, IN A SANDBOX (cutbox-rows.mjs): the forced cells as the released guide's own fill.sh prints them over the translation 13c43b47d559ee6c… (all of the seat's roots in one cut). By AI agents, Wed Nov 11 2026. No macro, syntax, notation, axiom, sorry.
-/
import Derived.Test.YtkpnckcfoigceabChecked
import GoSem.Claim
import GoSem.ClaimJoined
import GoSem.ClaimMapViews
import Derived.JoinedTies
import Derived.KernelRfl
namespace Go.Proofs.Ytkpnckcfoigceab
/- THE CELL 'sum', in the pinned program and in every row, IS THE sha256 OF THE DUMP (.gsa) THAT YtkpnckcfoigceabProg.lean LOADS. Nothing in Lean hashes anything: it is a label: what it is worth is what the hold of that sum in a sandbox is worth. -/
noncomputable def Try.pinned : Pinned := { name := "ytkpnckcfoigceab", sum := "13c43b47d559ee6cfc31997bb2bcec81f2f3717fd3d089508d36e50b675c0de4", checked := Try.checked }
namespace Rows
def none {H : Type} : Left H := { results := [], args := [] }

/-- 'laws.FnExactRightByBerg': WHATEVER THE INPUT: true; the input reads as it did. -/
def fnExactRightByBergSpec : ChangeSpec := { name := "fnExactRightByBerg", fn := fun _ => fun
  | [d] => { results := [.lit (.bool true)], args := [d] }
  | _ => none }
def fnExactRightByBergRow : OpenClaim := { program := "ytkpnckcfoigceab", sum := "13c43b47d559ee6cfc31997bb2bcec81f2f3717fd3d089508d36e50b675c0de4", func := "loop.example/g01122/laws.FnExactRightByBerg", spec := "fnExactRightByBerg", recurses := true, apart := false }
def FnExactRightByBergSaid : Prop := fnExactRightByBergRow.holds Try.pinned (OpenSpec.ofChange fnExactRightByBergSpec)

/-- ITS FALSE NEIGHBOUR: 'it returns false'. Refute it at one input. -/
def fnExactRightByBergWrong : ChangeSpec := { name := "fnExactRightByBerg", fn := fun _ => fun
  | [d] => { results := [.lit (.bool false)], args := [d] }
  | _ => none }
def FnExactRightByBergWrongFalsely : Prop := fnExactRightByBergRow.holds Try.pinned (OpenSpec.ofChange fnExactRightByBergWrong)

/-- 'laws.FnExactRightByPrice': WHATEVER THE INPUT: true; the input reads as it did. -/
def fnExactRightByPriceSpec : ChangeSpec := { name := "fnExactRightByPrice", fn := fun _ => fun
  | [d] => { results := [.lit (.bool true)], args := [d] }
  | _ => none }
def fnExactRightByPriceRow : OpenClaim := { program := "ytkpnckcfoigceab", sum := "13c43b47d559ee6cfc31997bb2bcec81f2f3717fd3d089508d36e50b675c0de4", func := "loop.example/g01122/laws.FnExactRightByPrice", spec := "fnExactRightByPrice", recurses := true, apart := false }
def FnExactRightByPriceSaid : Prop := fnExactRightByPriceRow.holds Try.pinned (OpenSpec.ofChange fnExactRightByPriceSpec)

/-- ITS FALSE NEIGHBOUR: 'it returns false'. Refute it at one input. -/
def fnExactRightByPriceWrong : ChangeSpec := { name := "fnExactRightByPrice", fn := fun _ => fun
  | [d] => { results := [.lit (.bool false)], args := [d] }
  | _ => none }
def FnExactRightByPriceWrongFalsely : Prop := fnExactRightByPriceRow.holds Try.pinned (OpenSpec.ofChange fnExactRightByPriceWrong)

/-- 'laws.FnExactRankOfWord': WHATEVER THE INPUT: true; the input reads as it did. -/
def fnExactRankOfWordSpec : ChangeSpec := { name := "fnExactRankOfWord", fn := fun _ => fun
  | [d] => { results := [.lit (.bool true)], args := [d] }
  | _ => none }
def fnExactRankOfWordRow : OpenClaim := { program := "ytkpnckcfoigceab", sum := "13c43b47d559ee6cfc31997bb2bcec81f2f3717fd3d089508d36e50b675c0de4", func := "loop.example/g01122/laws.FnExactRankOfWord", spec := "fnExactRankOfWord", apart := false }
def FnExactRankOfWordSaid : Prop := fnExactRankOfWordRow.holds Try.pinned (OpenSpec.ofChange fnExactRankOfWordSpec)

/-- ITS FALSE NEIGHBOUR: 'it returns false'. Refute it at one input. -/
def fnExactRankOfWordWrong : ChangeSpec := { name := "fnExactRankOfWord", fn := fun _ => fun
  | [d] => { results := [.lit (.bool false)], args := [d] }
  | _ => none }
def FnExactRankOfWordWrongFalsely : Prop := fnExactRankOfWordRow.holds Try.pinned (OpenSpec.ofChange fnExactRankOfWordWrong)

/- THE SECOND FORM. 'bulk': how many values and letters a reading holds, each counted each time it is reached (what is shared counts as often as it is met; a slice's spare places count too). A statement '..UptoSaid' is the law's where the arguments, and the package variables that the reading takes, are together of bulk at most 1048576: NARROWER than '..Said'. Prove '..Said' where nothing that the law and all that it calls make is longer than what came in: it says more and counts as full. Else prove '..UptoSaid'. A law counts once. -/
mutual
def uptoBulk {H : Type} : DataW H → Nat
  | .lit (.string bytes) => bytes.length + 1
  | .lit _ => 1
  | .nil => 1
  | .ptr d => uptoBulk d + 1
  | .slice elems spare => uptoBulkAll elems + uptoBulkAll spare + 1
  | .agg parts => uptoBulkAll parts + 1
  | .iface _ d => uptoBulk d + 1
  | .map entries => uptoBulkEntries entries + 1
  | .held _ => 1
def uptoBulkAll {H : Type} : List (DataW H) → Nat
  | [] => 0
  | d :: r => uptoBulk d + uptoBulkAll r
def uptoBulkEntries {H : Type} : List (Lit × DataW H) → Nat
  | [] => 0
  | x :: r => uptoBulkEntry x + uptoBulkEntries r
def uptoBulkEntry {H : Type} : Lit × DataW H → Nat
  | (.string bytes, d) => bytes.length + uptoBulk d + 1
  | (_, d) => uptoBulk d + 1
 end
def uptoSmall : (H : Type) → List (DataW H) → Bool := fun _ ds => decide (uptoBulkAll ds ≤ 1048576)
def OpenSpec.upto (s : _root_.Go.ChangeSpec) : _root_.Go.OpenSpec := { _root_.Go.OpenSpec.ofChange s with cond := some uptoSmall }

/-- 'laws.FnExactRightByBerg', WHERE WHAT IT READS IS OF BULK AT MOST 1048576: true; the input reads as it did. -/
def fnExactRightByBergUptoRow : OpenClaim := { program := "ytkpnckcfoigceab", sum := "13c43b47d559ee6cfc31997bb2bcec81f2f3717fd3d089508d36e50b675c0de4", func := "loop.example/g01122/laws.FnExactRightByBerg", spec := "fnExactRightByBerg", recurses := true, apart := false, narrowed := true }
def FnExactRightByBergUptoSaid : Prop := fnExactRightByBergUptoRow.holds Try.pinned (OpenSpec.upto fnExactRightByBergSpec)

/-- 'laws.FnExactRightByPrice', WHERE WHAT IT READS IS OF BULK AT MOST 1048576: true; the input reads as it did. -/
def fnExactRightByPriceUptoRow : OpenClaim := { program := "ytkpnckcfoigceab", sum := "13c43b47d559ee6cfc31997bb2bcec81f2f3717fd3d089508d36e50b675c0de4", func := "loop.example/g01122/laws.FnExactRightByPrice", spec := "fnExactRightByPrice", recurses := true, apart := false, narrowed := true }
def FnExactRightByPriceUptoSaid : Prop := fnExactRightByPriceUptoRow.holds Try.pinned (OpenSpec.upto fnExactRightByPriceSpec)

/-- 'laws.FnExactRankOfWord', WHERE WHAT IT READS IS OF BULK AT MOST 1048576: true; the input reads as it did. -/
def fnExactRankOfWordUptoRow : OpenClaim := { program := "ytkpnckcfoigceab", sum := "13c43b47d559ee6cfc31997bb2bcec81f2f3717fd3d089508d36e50b675c0de4", func := "loop.example/g01122/laws.FnExactRankOfWord", spec := "fnExactRankOfWord", apart := false, narrowed := true }
def FnExactRankOfWordUptoSaid : Prop := fnExactRankOfWordUptoRow.holds Try.pinned (OpenSpec.upto fnExactRankOfWordSpec)

end Rows
end Go.Proofs.Ytkpnckcfoigceab
