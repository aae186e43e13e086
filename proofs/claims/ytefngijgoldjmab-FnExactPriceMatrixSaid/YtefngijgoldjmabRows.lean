/-
  No cell of these rows narrows 'for every input' (looked for: loops, veiled, ifaces, maps, wideKeys, modest, calm, conditions, laid).
  DERIVED. THE GIVEN ROWS OF THIS SEAT. 11 by the template 'for every input the law returns true; each argument reads behind the call as it read before'; 0 by the template 'total and deterministic' (their statements: YtefngijgoldjmabTotals.lean).
  GIVEN WITH THE SEED: the statements are not yours to turn. If you find one false, say at which input.
  Laid BY PROGRAM, IN A SANDBOX (cutbox-rows.mjs): the forced cells as the released guide's own fill.sh prints them over the translation 2bf42eadfdc0d3b1… (all of the seat's roots in one cut). By AI agents, Wed Nov 11 2026. No macro, syntax, notation, axiom, sorry.
-/
import Derived.Test.YtefngijgoldjmabChecked
import GoSem.Claim
import GoSem.ClaimJoined
import GoSem.ClaimMapViews
import Derived.JoinedTies
import Derived.KernelRfl
namespace Go.Proofs.Ytefngijgoldjmab
/- THE CELL 'sum', in the pinned program and in every row, IS THE sha256 OF THE DUMP (.gsa) THAT YtefngijgoldjmabProg.lean LOADS. Nothing in Lean hashes anything: it is a label: what it is worth is what the hold of that sum in a sandbox is worth. -/
noncomputable def Try.pinned : Pinned := { name := "ytefngijgoldjmab", sum := "2bf42eadfdc0d3b1ebc502cdd482b3d2aae6c9b767e8e41a68396e048c5714a6", checked := Try.checked }
namespace Rows
def none {H : Type} : Left H := { results := [], args := [] }

/-- 'laws.FnExactCountRight': WHATEVER THE INPUT: true; the input reads as it did. -/
def fnExactCountRightSpec : ChangeSpec := { name := "fnExactCountRight", fn := fun _ => fun
  | [d] => { results := [.lit (.bool true)], args := [d] }
  | _ => none }
def fnExactCountRightRow : OpenClaim := { program := "ytefngijgoldjmab", sum := "2bf42eadfdc0d3b1ebc502cdd482b3d2aae6c9b767e8e41a68396e048c5714a6", func := "loop.example/g01122/laws.FnExactCountRight", spec := "fnExactCountRight", unfollowed := true, recurses := true, plainKeys := false, apart := false }
def FnExactCountRightSaid : Prop := fnExactCountRightRow.holds Try.pinned (OpenSpec.ofChange fnExactCountRightSpec)

/-- ITS FALSE NEIGHBOUR: 'it returns false'. Refute it at one input. -/
def fnExactCountRightWrong : ChangeSpec := { name := "fnExactCountRight", fn := fun _ => fun
  | [d] => { results := [.lit (.bool false)], args := [d] }
  | _ => none }
def FnExactCountRightWrongFalsely : Prop := fnExactCountRightRow.holds Try.pinned (OpenSpec.ofChange fnExactCountRightWrong)

/-- 'laws.FnExactInnerRadius': WHATEVER THE INPUT: true; the input reads as it did. -/
def fnExactInnerRadiusSpec : ChangeSpec := { name := "fnExactInnerRadius", fn := fun _ => fun
  | [d] => { results := [.lit (.bool true)], args := [d] }
  | _ => none }
def fnExactInnerRadiusRow : OpenClaim := { program := "ytefngijgoldjmab", sum := "2bf42eadfdc0d3b1ebc502cdd482b3d2aae6c9b767e8e41a68396e048c5714a6", func := "loop.example/g01122/laws.FnExactInnerRadius", spec := "fnExactInnerRadius", recurses := true, plainKeys := false, apart := false }
def FnExactInnerRadiusSaid : Prop := fnExactInnerRadiusRow.holds Try.pinned (OpenSpec.ofChange fnExactInnerRadiusSpec)

/-- ITS FALSE NEIGHBOUR: 'it returns false'. Refute it at one input. -/
def fnExactInnerRadiusWrong : ChangeSpec := { name := "fnExactInnerRadius", fn := fun _ => fun
  | [d] => { results := [.lit (.bool false)], args := [d] }
  | _ => none }
def FnExactInnerRadiusWrongFalsely : Prop := fnExactInnerRadiusRow.holds Try.pinned (OpenSpec.ofChange fnExactInnerRadiusWrong)

/-- 'laws.FnExactBergMatrix': WHATEVER THE INPUT: true; the input reads as it did. -/
def fnExactBergMatrixSpec : ChangeSpec := { name := "fnExactBergMatrix", fn := fun _ => fun
  | [d] => { results := [.lit (.bool true)], args := [d] }
  | _ => none }
def fnExactBergMatrixRow : OpenClaim := { program := "ytefngijgoldjmab", sum := "2bf42eadfdc0d3b1ebc502cdd482b3d2aae6c9b767e8e41a68396e048c5714a6", func := "loop.example/g01122/laws.FnExactBergMatrix", spec := "fnExactBergMatrix", plainKeys := false, apart := false }
def FnExactBergMatrixSaid : Prop := fnExactBergMatrixRow.holds Try.pinned (OpenSpec.ofChange fnExactBergMatrixSpec)

/-- ITS FALSE NEIGHBOUR: 'it returns false'. Refute it at one input. -/
def fnExactBergMatrixWrong : ChangeSpec := { name := "fnExactBergMatrix", fn := fun _ => fun
  | [d] => { results := [.lit (.bool false)], args := [d] }
  | _ => none }
def FnExactBergMatrixWrongFalsely : Prop := fnExactBergMatrixRow.holds Try.pinned (OpenSpec.ofChange fnExactBergMatrixWrong)

/-- 'laws.FnExactPriceMatrix': WHATEVER THE INPUT: true; the input reads as it did. -/
def fnExactPriceMatrixSpec : ChangeSpec := { name := "fnExactPriceMatrix", fn := fun _ => fun
  | [d] => { results := [.lit (.bool true)], args := [d] }
  | _ => none }
def fnExactPriceMatrixRow : OpenClaim := { program := "ytefngijgoldjmab", sum := "2bf42eadfdc0d3b1ebc502cdd482b3d2aae6c9b767e8e41a68396e048c5714a6", func := "loop.example/g01122/laws.FnExactPriceMatrix", spec := "fnExactPriceMatrix", plainKeys := false, apart := false }
def FnExactPriceMatrixSaid : Prop := fnExactPriceMatrixRow.holds Try.pinned (OpenSpec.ofChange fnExactPriceMatrixSpec)

/-- ITS FALSE NEIGHBOUR: 'it returns false'. Refute it at one input. -/
def fnExactPriceMatrixWrong : ChangeSpec := { name := "fnExactPriceMatrix", fn := fun _ => fun
  | [d] => { results := [.lit (.bool false)], args := [d] }
  | _ => none }
def FnExactPriceMatrixWrongFalsely : Prop := fnExactPriceMatrixRow.holds Try.pinned (OpenSpec.ofChange fnExactPriceMatrixWrong)

/-- 'laws.FnExactRankOfWord': WHATEVER THE INPUT: true; the input reads as it did. -/
def fnExactRankOfWordSpec : ChangeSpec := { name := "fnExactRankOfWord", fn := fun _ => fun
  | [d] => { results := [.lit (.bool true)], args := [d] }
  | _ => none }
def fnExactRankOfWordRow : OpenClaim := { program := "ytefngijgoldjmab", sum := "2bf42eadfdc0d3b1ebc502cdd482b3d2aae6c9b767e8e41a68396e048c5714a6", func := "loop.example/g01122/laws.FnExactRankOfWord", spec := "fnExactRankOfWord", plainKeys := false, apart := false }
def FnExactRankOfWordSaid : Prop := fnExactRankOfWordRow.holds Try.pinned (OpenSpec.ofChange fnExactRankOfWordSpec)

/-- ITS FALSE NEIGHBOUR: 'it returns false'. Refute it at one input. -/
def fnExactRankOfWordWrong : ChangeSpec := { name := "fnExactRankOfWord", fn := fun _ => fun
  | [d] => { results := [.lit (.bool false)], args := [d] }
  | _ => none }
def FnExactRankOfWordWrongFalsely : Prop := fnExactRankOfWordRow.holds Try.pinned (OpenSpec.ofChange fnExactRankOfWordWrong)

/-- 'laws.FnExactWordOfRank': WHATEVER THE INPUT: true; the input reads as it did. -/
def fnExactWordOfRankSpec : ChangeSpec := { name := "fnExactWordOfRank", fn := fun _ => fun
  | [d] => { results := [.lit (.bool true)], args := [d] }
  | _ => none }
def fnExactWordOfRankRow : OpenClaim := { program := "ytefngijgoldjmab", sum := "2bf42eadfdc0d3b1ebc502cdd482b3d2aae6c9b767e8e41a68396e048c5714a6", func := "loop.example/g01122/laws.FnExactWordOfRank", spec := "fnExactWordOfRank", plainKeys := false, apart := false }
def FnExactWordOfRankSaid : Prop := fnExactWordOfRankRow.holds Try.pinned (OpenSpec.ofChange fnExactWordOfRankSpec)

/-- ITS FALSE NEIGHBOUR: 'it returns false'. Refute it at one input. -/
def fnExactWordOfRankWrong : ChangeSpec := { name := "fnExactWordOfRank", fn := fun _ => fun
  | [d] => { results := [.lit (.bool false)], args := [d] }
  | _ => none }
def FnExactWordOfRankWrongFalsely : Prop := fnExactWordOfRankRow.holds Try.pinned (OpenSpec.ofChange fnExactWordOfRankWrong)

/-- 'laws.FnExactMarkovUpTo': WHATEVER THE INPUT: true; the input reads as it did. -/
def fnExactMarkovUpToSpec : ChangeSpec := { name := "fnExactMarkovUpTo", fn := fun _ => fun
  | [d] => { results := [.lit (.bool true)], args := [d] }
  | _ => none }
def fnExactMarkovUpToRow : OpenClaim := { program := "ytefngijgoldjmab", sum := "2bf42eadfdc0d3b1ebc502cdd482b3d2aae6c9b767e8e41a68396e048c5714a6", func := "loop.example/g01122/laws.FnExactMarkovUpTo", spec := "fnExactMarkovUpTo", unfollowed := true, recurses := true, plainKeys := false, apart := false }
def FnExactMarkovUpToSaid : Prop := fnExactMarkovUpToRow.holds Try.pinned (OpenSpec.ofChange fnExactMarkovUpToSpec)

/-- ITS FALSE NEIGHBOUR: 'it returns false'. Refute it at one input. -/
def fnExactMarkovUpToWrong : ChangeSpec := { name := "fnExactMarkovUpTo", fn := fun _ => fun
  | [d] => { results := [.lit (.bool false)], args := [d] }
  | _ => none }
def FnExactMarkovUpToWrongFalsely : Prop := fnExactMarkovUpToRow.holds Try.pinned (OpenSpec.ofChange fnExactMarkovUpToWrong)

/-- 'laws.FnExactMarkovNumbersUpTo': WHATEVER THE INPUT: true; the input reads as it did. -/
def fnExactMarkovNumbersUpToSpec : ChangeSpec := { name := "fnExactMarkovNumbersUpTo", fn := fun _ => fun
  | [d] => { results := [.lit (.bool true)], args := [d] }
  | _ => none }
def fnExactMarkovNumbersUpToRow : OpenClaim := { program := "ytefngijgoldjmab", sum := "2bf42eadfdc0d3b1ebc502cdd482b3d2aae6c9b767e8e41a68396e048c5714a6", func := "loop.example/g01122/laws.FnExactMarkovNumbersUpTo", spec := "fnExactMarkovNumbersUpTo", unfollowed := true, recurses := true, plainKeys := false, apart := false }
def FnExactMarkovNumbersUpToSaid : Prop := fnExactMarkovNumbersUpToRow.holds Try.pinned (OpenSpec.ofChange fnExactMarkovNumbersUpToSpec)

/-- ITS FALSE NEIGHBOUR: 'it returns false'. Refute it at one input. -/
def fnExactMarkovNumbersUpToWrong : ChangeSpec := { name := "fnExactMarkovNumbersUpTo", fn := fun _ => fun
  | [d] => { results := [.lit (.bool false)], args := [d] }
  | _ => none }
def FnExactMarkovNumbersUpToWrongFalsely : Prop := fnExactMarkovNumbersUpToRow.holds Try.pinned (OpenSpec.ofChange fnExactMarkovNumbersUpToWrong)

/-- 'laws.FnExactIsMarkovNumber': WHATEVER THE INPUT: true; the input reads as it did. -/
def fnExactIsMarkovNumberSpec : ChangeSpec := { name := "fnExactIsMarkovNumber", fn := fun _ => fun
  | [d] => { results := [.lit (.bool true)], args := [d] }
  | _ => none }
def fnExactIsMarkovNumberRow : OpenClaim := { program := "ytefngijgoldjmab", sum := "2bf42eadfdc0d3b1ebc502cdd482b3d2aae6c9b767e8e41a68396e048c5714a6", func := "loop.example/g01122/laws.FnExactIsMarkovNumber", spec := "fnExactIsMarkovNumber", unfollowed := true, recurses := true, plainKeys := false, apart := false }
def FnExactIsMarkovNumberSaid : Prop := fnExactIsMarkovNumberRow.holds Try.pinned (OpenSpec.ofChange fnExactIsMarkovNumberSpec)

/-- ITS FALSE NEIGHBOUR: 'it returns false'. Refute it at one input. -/
def fnExactIsMarkovNumberWrong : ChangeSpec := { name := "fnExactIsMarkovNumber", fn := fun _ => fun
  | [d] => { results := [.lit (.bool false)], args := [d] }
  | _ => none }
def FnExactIsMarkovNumberWrongFalsely : Prop := fnExactIsMarkovNumberRow.holds Try.pinned (OpenSpec.ofChange fnExactIsMarkovNumberWrong)

/-- 'laws.FnExactTriplesWith': WHATEVER THE INPUT: true; the input reads as it did. -/
def fnExactTriplesWithSpec : ChangeSpec := { name := "fnExactTriplesWith", fn := fun _ => fun
  | [d] => { results := [.lit (.bool true)], args := [d] }
  | _ => none }
def fnExactTriplesWithRow : OpenClaim := { program := "ytefngijgoldjmab", sum := "2bf42eadfdc0d3b1ebc502cdd482b3d2aae6c9b767e8e41a68396e048c5714a6", func := "loop.example/g01122/laws.FnExactTriplesWith", spec := "fnExactTriplesWith", unfollowed := true, recurses := true, plainKeys := false, apart := false }
def FnExactTriplesWithSaid : Prop := fnExactTriplesWithRow.holds Try.pinned (OpenSpec.ofChange fnExactTriplesWithSpec)

/-- ITS FALSE NEIGHBOUR: 'it returns false'. Refute it at one input. -/
def fnExactTriplesWithWrong : ChangeSpec := { name := "fnExactTriplesWith", fn := fun _ => fun
  | [d] => { results := [.lit (.bool false)], args := [d] }
  | _ => none }
def FnExactTriplesWithWrongFalsely : Prop := fnExactTriplesWithRow.holds Try.pinned (OpenSpec.ofChange fnExactTriplesWithWrong)

/-- 'laws.FnExactModOrbit': WHATEVER THE INPUT: true; the input reads as it did. -/
def fnExactModOrbitSpec : ChangeSpec := { name := "fnExactModOrbit", fn := fun _ => fun
  | [d1, d2] => { results := [.lit (.bool true)], args := [d1, d2] }
  | _ => none }
def fnExactModOrbitRow : OpenClaim := { program := "ytefngijgoldjmab", sum := "2bf42eadfdc0d3b1ebc502cdd482b3d2aae6c9b767e8e41a68396e048c5714a6", func := "loop.example/g01122/laws.FnExactModOrbit", spec := "fnExactModOrbit", unfollowed := true, recurses := true, plainKeys := false, apart := false }
def FnExactModOrbitSaid : Prop := fnExactModOrbitRow.holds Try.pinned (OpenSpec.ofChange fnExactModOrbitSpec)

/-- ITS FALSE NEIGHBOUR: 'it returns false'. Refute it at one input. -/
def fnExactModOrbitWrong : ChangeSpec := { name := "fnExactModOrbit", fn := fun _ => fun
  | [d1, d2] => { results := [.lit (.bool false)], args := [d1, d2] }
  | _ => none }
def FnExactModOrbitWrongFalsely : Prop := fnExactModOrbitRow.holds Try.pinned (OpenSpec.ofChange fnExactModOrbitWrong)

/- THE SECOND FORM. 'bulk': how many values and letters a reading holds, each counted each time it is reached (what is shared counts as often as it is met; a slice's spare places count too). A statement '..UptoSaid' is the law's where the arguments, and the package variables that the reading takes, are together of bulk at most 1048576: NARROWER than '..Said'. Prove '..Said' where nothing that the law and all that it calls make is longer than what came in: it says more and counts as full. Else prove '..UptoSaid'. A law counts once. -/
mutual
def uptoBulk {H : Type} : DataW H → Nat
  | .lit (.string bytes) => bytes.length + 1
  | .lit _ => 1
  | .nil => 1
  | .ptr d => uptoBulk d + 1
  | .slice elems spare => uptoBulkAll elems + uptoBulkAll spare + 1
  | .agg parts => uptoBulkAll parts + 1
  | .iface _ d => uptoBulk d + 1
  | .map entries => uptoBulkEntries entries + 1
  | .held _ => 1
def uptoBulkAll {H : Type} : List (DataW H) → Nat
  | [] => 0
  | d :: r => uptoBulk d + uptoBulkAll r
def uptoBulkEntries {H : Type} : List (Lit × DataW H) → Nat
  | [] => 0
  | x :: r => uptoBulkEntry x + uptoBulkEntries r
def uptoBulkEntry {H : Type} : Lit × DataW H → Nat
  | (.string bytes, d) => bytes.length + uptoBulk d + 1
  | (_, d) => uptoBulk d + 1
 end
def uptoSmall : (H : Type) → List (DataW H) → Bool := fun _ ds => decide (uptoBulkAll ds ≤ 1048576)
def OpenSpec.upto (s : _root_.Go.ChangeSpec) : _root_.Go.OpenSpec := { _root_.Go.OpenSpec.ofChange s with cond := some uptoSmall }

/-- 'laws.FnExactCountRight', WHERE WHAT IT READS IS OF BULK AT MOST 1048576: true; the input reads as it did. -/
def fnExactCountRightUptoRow : OpenClaim := { program := "ytefngijgoldjmab", sum := "2bf42eadfdc0d3b1ebc502cdd482b3d2aae6c9b767e8e41a68396e048c5714a6", func := "loop.example/g01122/laws.FnExactCountRight", spec := "fnExactCountRight", unfollowed := true, recurses := true, plainKeys := false, apart := false, narrowed := true }
def FnExactCountRightUptoSaid : Prop := fnExactCountRightUptoRow.holds Try.pinned (OpenSpec.upto fnExactCountRightSpec)

/-- 'laws.FnExactInnerRadius', WHERE WHAT IT READS IS OF BULK AT MOST 1048576: true; the input reads as it did. -/
def fnExactInnerRadiusUptoRow : OpenClaim := { program := "ytefngijgoldjmab", sum := "2bf42eadfdc0d3b1ebc502cdd482b3d2aae6c9b767e8e41a68396e048c5714a6", func := "loop.example/g01122/laws.FnExactInnerRadius", spec := "fnExactInnerRadius", recurses := true, plainKeys := false, apart := false, narrowed := true }
def FnExactInnerRadiusUptoSaid : Prop := fnExactInnerRadiusUptoRow.holds Try.pinned (OpenSpec.upto fnExactInnerRadiusSpec)

/-- 'laws.FnExactBergMatrix', WHERE WHAT IT READS IS OF BULK AT MOST 1048576: true; the input reads as it did. -/
def fnExactBergMatrixUptoRow : OpenClaim := { program := "ytefngijgoldjmab", sum := "2bf42eadfdc0d3b1ebc502cdd482b3d2aae6c9b767e8e41a68396e048c5714a6", func := "loop.example/g01122/laws.FnExactBergMatrix", spec := "fnExactBergMatrix", plainKeys := false, apart := false, narrowed := true }
def FnExactBergMatrixUptoSaid : Prop := fnExactBergMatrixUptoRow.holds Try.pinned (OpenSpec.upto fnExactBergMatrixSpec)

/-- 'laws.FnExactPriceMatrix', WHERE WHAT IT READS IS OF BULK AT MOST 1048576: true; the input reads as it did. -/
def fnExactPriceMatrixUptoRow : OpenClaim := { program := "ytefngijgoldjmab", sum := "2bf42eadfdc0d3b1ebc502cdd482b3d2aae6c9b767e8e41a68396e048c5714a6", func := "loop.example/g01122/laws.FnExactPriceMatrix", spec := "fnExactPriceMatrix", plainKeys := false, apart := false, narrowed := true }
def FnExactPriceMatrixUptoSaid : Prop := fnExactPriceMatrixUptoRow.holds Try.pinned (OpenSpec.upto fnExactPriceMatrixSpec)

/-- 'laws.FnExactRankOfWord', WHERE WHAT IT READS IS OF BULK AT MOST 1048576: true; the input reads as it did. -/
def fnExactRankOfWordUptoRow : OpenClaim := { program := "ytefngijgoldjmab", sum := "2bf42eadfdc0d3b1ebc502cdd482b3d2aae6c9b767e8e41a68396e048c5714a6", func := "loop.example/g01122/laws.FnExactRankOfWord", spec := "fnExactRankOfWord", plainKeys := false, apart := false, narrowed := true }
def FnExactRankOfWordUptoSaid : Prop := fnExactRankOfWordUptoRow.holds Try.pinned (OpenSpec.upto fnExactRankOfWordSpec)

/-- 'laws.FnExactWordOfRank', WHERE WHAT IT READS IS OF BULK AT MOST 1048576: true; the input reads as it did. -/
def fnExactWordOfRankUptoRow : OpenClaim := { program := "ytefngijgoldjmab", sum := "2bf42eadfdc0d3b1ebc502cdd482b3d2aae6c9b767e8e41a68396e048c5714a6", func := "loop.example/g01122/laws.FnExactWordOfRank", spec := "fnExactWordOfRank", plainKeys := false, apart := false, narrowed := true }
def FnExactWordOfRankUptoSaid : Prop := fnExactWordOfRankUptoRow.holds Try.pinned (OpenSpec.upto fnExactWordOfRankSpec)

/-- 'laws.FnExactMarkovUpTo', WHERE WHAT IT READS IS OF BULK AT MOST 1048576: true; the input reads as it did. -/
def fnExactMarkovUpToUptoRow : OpenClaim := { program := "ytefngijgoldjmab", sum := "2bf42eadfdc0d3b1ebc502cdd482b3d2aae6c9b767e8e41a68396e048c5714a6", func := "loop.example/g01122/laws.FnExactMarkovUpTo", spec := "fnExactMarkovUpTo", unfollowed := true, recurses := true, plainKeys := false, apart := false, narrowed := true }
def FnExactMarkovUpToUptoSaid : Prop := fnExactMarkovUpToUptoRow.holds Try.pinned (OpenSpec.upto fnExactMarkovUpToSpec)

/-- 'laws.FnExactMarkovNumbersUpTo', WHERE WHAT IT READS IS OF BULK AT MOST 1048576: true; the input reads as it did. -/
def fnExactMarkovNumbersUpToUptoRow : OpenClaim := { program := "ytefngijgoldjmab", sum := "2bf42eadfdc0d3b1ebc502cdd482b3d2aae6c9b767e8e41a68396e048c5714a6", func := "loop.example/g01122/laws.FnExactMarkovNumbersUpTo", spec := "fnExactMarkovNumbersUpTo", unfollowed := true, recurses := true, plainKeys := false, apart := false, narrowed := true }
def FnExactMarkovNumbersUpToUptoSaid : Prop := fnExactMarkovNumbersUpToUptoRow.holds Try.pinned (OpenSpec.upto fnExactMarkovNumbersUpToSpec)

/-- 'laws.FnExactIsMarkovNumber', WHERE WHAT IT READS IS OF BULK AT MOST 1048576: true; the input reads as it did. -/
def fnExactIsMarkovNumberUptoRow : OpenClaim := { program := "ytefngijgoldjmab", sum := "2bf42eadfdc0d3b1ebc502cdd482b3d2aae6c9b767e8e41a68396e048c5714a6", func := "loop.example/g01122/laws.FnExactIsMarkovNumber", spec := "fnExactIsMarkovNumber", unfollowed := true, recurses := true, plainKeys := false, apart := false, narrowed := true }
def FnExactIsMarkovNumberUptoSaid : Prop := fnExactIsMarkovNumberUptoRow.holds Try.pinned (OpenSpec.upto fnExactIsMarkovNumberSpec)

/-- 'laws.FnExactTriplesWith', WHERE WHAT IT READS IS OF BULK AT MOST 1048576: true; the input reads as it did. -/
def fnExactTriplesWithUptoRow : OpenClaim := { program := "ytefngijgoldjmab", sum := "2bf42eadfdc0d3b1ebc502cdd482b3d2aae6c9b767e8e41a68396e048c5714a6", func := "loop.example/g01122/laws.FnExactTriplesWith", spec := "fnExactTriplesWith", unfollowed := true, recurses := true, plainKeys := false, apart := false, narrowed := true }
def FnExactTriplesWithUptoSaid : Prop := fnExactTriplesWithUptoRow.holds Try.pinned (OpenSpec.upto fnExactTriplesWithSpec)

/-- 'laws.FnExactModOrbit', WHERE WHAT IT READS IS OF BULK AT MOST 1048576: true; the input reads as it did. -/
def fnExactModOrbitUptoRow : OpenClaim := { program := "ytefngijgoldjmab", sum := "2bf42eadfdc0d3b1ebc502cdd482b3d2aae6c9b767e8e41a68396e048c5714a6", func := "loop.example/g01122/laws.FnExactModOrbit", spec := "fnExactModOrbit", unfollowed := true, recurses := true, plainKeys := false, apart := false, narrowed := true }
def FnExactModOrbitUptoSaid : Prop := fnExactModOrbitUptoRow.holds Try.pinned (OpenSpec.upto fnExactModOrbitSpec)

end Rows
end Go.Proofs.Ytefngijgoldjmab
