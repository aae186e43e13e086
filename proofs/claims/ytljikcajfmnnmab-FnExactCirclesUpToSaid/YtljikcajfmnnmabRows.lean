/-
  No cell of these rows narrows 'for every input' (looked for: loops, veiled, ifaces, maps, wideKeys, modest, calm, conditions, laid).
  DERIVED. THE GIVEN ROWS OF THIS SEAT. 7 by the template 'for every input the law returns true; each argument reads behind the call as it read before'; 0 by the template 'total and deterministic' (their statements: YtljikcajfmnnmabTotals.lean).
  GIVEN WITH THE SEED: the statements are not yours to turn. If you find one false, say at which input.
  Laid BY PROGRAM, IN A SANDBOX (cutbox-rows.mjs): the forced cells as the released guide's own fill.sh prints them over the translation c336ef00e5e8d2d2… (all of the seat's roots in one cut). By AI agents, Wed Nov 11 2026. No macro, syntax, notation, axiom, sorry.
-/
import Derived.Test.YtljikcajfmnnmabChecked
import GoSem.Claim
import GoSem.ClaimJoined
import GoSem.ClaimMapViews
import Derived.JoinedTies
import Derived.KernelRfl
namespace Go.Proofs.Ytljikcajfmnnmab
/- THE CELL 'sum', in the pinned program and in every row, IS THE sha256 OF THE DUMP (.gsa) THAT YtljikcajfmnnmabProg.lean LOADS. Nothing in Lean hashes anything: it is a label: what it is worth is what the hold of that sum in a sandbox is worth. -/
noncomputable def Try.pinned : Pinned := { name := "ytljikcajfmnnmab", sum := "c336ef00e5e8d2d244ef44c1a5a91712deb87f94a449e59bcdd840d4d9edbe38", checked := Try.checked }
namespace Rows
def none {H : Type} : Left H := { results := [], args := [] }

/-- 'laws.FnExactStartConfig': WHATEVER THE INPUT: true; the input reads as it did. -/
def fnExactStartConfigSpec : ChangeSpec := { name := "fnExactStartConfig", fn := fun _ => fun
  | [d] => { results := [.lit (.bool true)], args := [d] }
  | _ => none }
def fnExactStartConfigRow : OpenClaim := { program := "ytljikcajfmnnmab", sum := "c336ef00e5e8d2d244ef44c1a5a91712deb87f94a449e59bcdd840d4d9edbe38", func := "loop.example/g01122/laws.FnExactStartConfig", spec := "fnExactStartConfig", apart := false }
def FnExactStartConfigSaid : Prop := fnExactStartConfigRow.holds Try.pinned (OpenSpec.ofChange fnExactStartConfigSpec)

/-- ITS FALSE NEIGHBOUR: 'it returns false'. Refute it at one input. -/
def fnExactStartConfigWrong : ChangeSpec := { name := "fnExactStartConfig", fn := fun _ => fun
  | [d] => { results := [.lit (.bool false)], args := [d] }
  | _ => none }
def FnExactStartConfigWrongFalsely : Prop := fnExactStartConfigRow.holds Try.pinned (OpenSpec.ofChange fnExactStartConfigWrong)

/-- 'laws.FnExactTouchingPairs': WHATEVER THE INPUT: true; the input reads as it did. -/
def fnExactTouchingPairsSpec : ChangeSpec := { name := "fnExactTouchingPairs", fn := fun _ => fun
  | [d] => { results := [.lit (.bool true)], args := [d] }
  | _ => none }
def fnExactTouchingPairsRow : OpenClaim := { program := "ytljikcajfmnnmab", sum := "c336ef00e5e8d2d244ef44c1a5a91712deb87f94a449e59bcdd840d4d9edbe38", func := "loop.example/g01122/laws.FnExactTouchingPairs", spec := "fnExactTouchingPairs", unfollowed := true, recurses := true, apart := false }
def FnExactTouchingPairsSaid : Prop := fnExactTouchingPairsRow.holds Try.pinned (OpenSpec.ofChange fnExactTouchingPairsSpec)

/-- ITS FALSE NEIGHBOUR: 'it returns false'. Refute it at one input. -/
def fnExactTouchingPairsWrong : ChangeSpec := { name := "fnExactTouchingPairs", fn := fun _ => fun
  | [d] => { results := [.lit (.bool false)], args := [d] }
  | _ => none }
def FnExactTouchingPairsWrongFalsely : Prop := fnExactTouchingPairsRow.holds Try.pinned (OpenSpec.ofChange fnExactTouchingPairsWrong)

/-- 'laws.FnExactIsConfig': WHATEVER THE INPUT: true; the input reads as it did. -/
def fnExactIsConfigSpec : ChangeSpec := { name := "fnExactIsConfig", fn := fun _ => fun
  | [d] => { results := [.lit (.bool true)], args := [d] }
  | _ => none }
def fnExactIsConfigRow : OpenClaim := { program := "ytljikcajfmnnmab", sum := "c336ef00e5e8d2d244ef44c1a5a91712deb87f94a449e59bcdd840d4d9edbe38", func := "loop.example/g01122/laws.FnExactIsConfig", spec := "fnExactIsConfig", unfollowed := true, recurses := true, apart := false }
def FnExactIsConfigSaid : Prop := fnExactIsConfigRow.holds Try.pinned (OpenSpec.ofChange fnExactIsConfigSpec)

/-- ITS FALSE NEIGHBOUR: 'it returns false'. Refute it at one input. -/
def fnExactIsConfigWrong : ChangeSpec := { name := "fnExactIsConfig", fn := fun _ => fun
  | [d] => { results := [.lit (.bool false)], args := [d] }
  | _ => none }
def FnExactIsConfigWrongFalsely : Prop := fnExactIsConfigRow.holds Try.pinned (OpenSpec.ofChange fnExactIsConfigWrong)

/-- 'laws.FnExactCurvaturesOf': WHATEVER THE INPUT: true; the input reads as it did. -/
def fnExactCurvaturesOfSpec : ChangeSpec := { name := "fnExactCurvaturesOf", fn := fun _ => fun
  | [d] => { results := [.lit (.bool true)], args := [d] }
  | _ => none }
def fnExactCurvaturesOfRow : OpenClaim := { program := "ytljikcajfmnnmab", sum := "c336ef00e5e8d2d244ef44c1a5a91712deb87f94a449e59bcdd840d4d9edbe38", func := "loop.example/g01122/laws.FnExactCurvaturesOf", spec := "fnExactCurvaturesOf", unfollowed := true, recurses := true, apart := false }
def FnExactCurvaturesOfSaid : Prop := fnExactCurvaturesOfRow.holds Try.pinned (OpenSpec.ofChange fnExactCurvaturesOfSpec)

/-- ITS FALSE NEIGHBOUR: 'it returns false'. Refute it at one input. -/
def fnExactCurvaturesOfWrong : ChangeSpec := { name := "fnExactCurvaturesOf", fn := fun _ => fun
  | [d] => { results := [.lit (.bool false)], args := [d] }
  | _ => none }
def FnExactCurvaturesOfWrongFalsely : Prop := fnExactCurvaturesOfRow.holds Try.pinned (OpenSpec.ofChange fnExactCurvaturesOfWrong)

/-- 'laws.FnExactSwapCircle': WHATEVER THE INPUT: true; the input reads as it did. -/
def fnExactSwapCircleSpec : ChangeSpec := { name := "fnExactSwapCircle", fn := fun _ => fun
  | [d1, d2] => { results := [.lit (.bool true)], args := [d1, d2] }
  | _ => none }
def fnExactSwapCircleRow : OpenClaim := { program := "ytljikcajfmnnmab", sum := "c336ef00e5e8d2d244ef44c1a5a91712deb87f94a449e59bcdd840d4d9edbe38", func := "loop.example/g01122/laws.FnExactSwapCircle", spec := "fnExactSwapCircle", unfollowed := true, recurses := true, apart := false }
def FnExactSwapCircleSaid : Prop := fnExactSwapCircleRow.holds Try.pinned (OpenSpec.ofChange fnExactSwapCircleSpec)

/-- ITS FALSE NEIGHBOUR: 'it returns false'. Refute it at one input. -/
def fnExactSwapCircleWrong : ChangeSpec := { name := "fnExactSwapCircle", fn := fun _ => fun
  | [d1, d2] => { results := [.lit (.bool false)], args := [d1, d2] }
  | _ => none }
def FnExactSwapCircleWrongFalsely : Prop := fnExactSwapCircleRow.holds Try.pinned (OpenSpec.ofChange fnExactSwapCircleWrong)

/-- 'laws.FnExactFollowCircles': WHATEVER THE INPUT: true; the input reads as it did. -/
def fnExactFollowCirclesSpec : ChangeSpec := { name := "fnExactFollowCircles", fn := fun _ => fun
  | [d1, d2] => { results := [.lit (.bool true)], args := [d1, d2] }
  | _ => none }
def fnExactFollowCirclesRow : OpenClaim := { program := "ytljikcajfmnnmab", sum := "c336ef00e5e8d2d244ef44c1a5a91712deb87f94a449e59bcdd840d4d9edbe38", func := "loop.example/g01122/laws.FnExactFollowCircles", spec := "fnExactFollowCircles", unfollowed := true, recurses := true, apart := false }
def FnExactFollowCirclesSaid : Prop := fnExactFollowCirclesRow.holds Try.pinned (OpenSpec.ofChange fnExactFollowCirclesSpec)

/-- ITS FALSE NEIGHBOUR: 'it returns false'. Refute it at one input. -/
def fnExactFollowCirclesWrong : ChangeSpec := { name := "fnExactFollowCircles", fn := fun _ => fun
  | [d1, d2] => { results := [.lit (.bool false)], args := [d1, d2] }
  | _ => none }
def FnExactFollowCirclesWrongFalsely : Prop := fnExactFollowCirclesRow.holds Try.pinned (OpenSpec.ofChange fnExactFollowCirclesWrong)

/-- 'laws.FnExactCirclesUpTo': WHATEVER THE INPUT: true; the input reads as it did. -/
def fnExactCirclesUpToSpec : ChangeSpec := { name := "fnExactCirclesUpTo", fn := fun _ => fun
  | [d1, d2] => { results := [.lit (.bool true)], args := [d1, d2] }
  | _ => none }
def fnExactCirclesUpToRow : OpenClaim := { program := "ytljikcajfmnnmab", sum := "c336ef00e5e8d2d244ef44c1a5a91712deb87f94a449e59bcdd840d4d9edbe38", func := "loop.example/g01122/laws.FnExactCirclesUpTo", spec := "fnExactCirclesUpTo", unfollowed := true, recurses := true, apart := false }
def FnExactCirclesUpToSaid : Prop := fnExactCirclesUpToRow.holds Try.pinned (OpenSpec.ofChange fnExactCirclesUpToSpec)

/-- ITS FALSE NEIGHBOUR: 'it returns false'. Refute it at one input. -/
def fnExactCirclesUpToWrong : ChangeSpec := { name := "fnExactCirclesUpTo", fn := fun _ => fun
  | [d1, d2] => { results := [.lit (.bool false)], args := [d1, d2] }
  | _ => none }
def FnExactCirclesUpToWrongFalsely : Prop := fnExactCirclesUpToRow.holds Try.pinned (OpenSpec.ofChange fnExactCirclesUpToWrong)

/- THE SECOND FORM. 'bulk': how many values and letters a reading holds, each counted each time it is reached (what is shared counts as often as it is met; a slice's spare places count too). A statement '..UptoSaid' is the law's where the arguments, and the package variables that the reading takes, are together of bulk at most 1048576: NARROWER than '..Said'. Prove '..Said' where nothing that the law and all that it calls make is longer than what came in: it says more and counts as full. Else prove '..UptoSaid'. A law counts once. -/
mutual
def uptoBulk {H : Type} : DataW H → Nat
  | .lit (.string bytes) => bytes.length + 1
  | .lit _ => 1
  | .nil => 1
  | .ptr d => uptoBulk d + 1
  | .slice elems spare => uptoBulkAll elems + uptoBulkAll spare + 1
  | .agg parts => uptoBulkAll parts + 1
  | .iface _ d => uptoBulk d + 1
  | .map entries => uptoBulkEntries entries + 1
  | .held _ => 1
def uptoBulkAll {H : Type} : List (DataW H) → Nat
  | [] => 0
  | d :: r => uptoBulk d + uptoBulkAll r
def uptoBulkEntries {H : Type} : List (Lit × DataW H) → Nat
  | [] => 0
  | x :: r => uptoBulkEntry x + uptoBulkEntries r
def uptoBulkEntry {H : Type} : Lit × DataW H → Nat
  | (.string bytes, d) => bytes.length + uptoBulk d + 1
  | (_, d) => uptoBulk d + 1
 end
def uptoSmall : (H : Type) → List (DataW H) → Bool := fun _ ds => decide (uptoBulkAll ds ≤ 1048576)
def OpenSpec.upto (s : _root_.Go.ChangeSpec) : _root_.Go.OpenSpec := { _root_.Go.OpenSpec.ofChange s with cond := some uptoSmall }

/-- 'laws.FnExactStartConfig', WHERE WHAT IT READS IS OF BULK AT MOST 1048576: true; the input reads as it did. -/
def fnExactStartConfigUptoRow : OpenClaim := { program := "ytljikcajfmnnmab", sum := "c336ef00e5e8d2d244ef44c1a5a91712deb87f94a449e59bcdd840d4d9edbe38", func := "loop.example/g01122/laws.FnExactStartConfig", spec := "fnExactStartConfig", apart := false, narrowed := true }
def FnExactStartConfigUptoSaid : Prop := fnExactStartConfigUptoRow.holds Try.pinned (OpenSpec.upto fnExactStartConfigSpec)

/-- 'laws.FnExactTouchingPairs', WHERE WHAT IT READS IS OF BULK AT MOST 1048576: true; the input reads as it did. -/
def fnExactTouchingPairsUptoRow : OpenClaim := { program := "ytljikcajfmnnmab", sum := "c336ef00e5e8d2d244ef44c1a5a91712deb87f94a449e59bcdd840d4d9edbe38", func := "loop.example/g01122/laws.FnExactTouchingPairs", spec := "fnExactTouchingPairs", unfollowed := true, recurses := true, apart := false, narrowed := true }
def FnExactTouchingPairsUptoSaid : Prop := fnExactTouchingPairsUptoRow.holds Try.pinned (OpenSpec.upto fnExactTouchingPairsSpec)

/-- 'laws.FnExactIsConfig', WHERE WHAT IT READS IS OF BULK AT MOST 1048576: true; the input reads as it did. -/
def fnExactIsConfigUptoRow : OpenClaim := { program := "ytljikcajfmnnmab", sum := "c336ef00e5e8d2d244ef44c1a5a91712deb87f94a449e59bcdd840d4d9edbe38", func := "loop.example/g01122/laws.FnExactIsConfig", spec := "fnExactIsConfig", unfollowed := true, recurses := true, apart := false, narrowed := true }
def FnExactIsConfigUptoSaid : Prop := fnExactIsConfigUptoRow.holds Try.pinned (OpenSpec.upto fnExactIsConfigSpec)

/-- 'laws.FnExactCurvaturesOf', WHERE WHAT IT READS IS OF BULK AT MOST 1048576: true; the input reads as it did. -/
def fnExactCurvaturesOfUptoRow : OpenClaim := { program := "ytljikcajfmnnmab", sum := "c336ef00e5e8d2d244ef44c1a5a91712deb87f94a449e59bcdd840d4d9edbe38", func := "loop.example/g01122/laws.FnExactCurvaturesOf", spec := "fnExactCurvaturesOf", unfollowed := true, recurses := true, apart := false, narrowed := true }
def FnExactCurvaturesOfUptoSaid : Prop := fnExactCurvaturesOfUptoRow.holds Try.pinned (OpenSpec.upto fnExactCurvaturesOfSpec)

/-- 'laws.FnExactSwapCircle', WHERE WHAT IT READS IS OF BULK AT MOST 1048576: true; the input reads as it did. -/
def fnExactSwapCircleUptoRow : OpenClaim := { program := "ytljikcajfmnnmab", sum := "c336ef00e5e8d2d244ef44c1a5a91712deb87f94a449e59bcdd840d4d9edbe38", func := "loop.example/g01122/laws.FnExactSwapCircle", spec := "fnExactSwapCircle", unfollowed := true, recurses := true, apart := false, narrowed := true }
def FnExactSwapCircleUptoSaid : Prop := fnExactSwapCircleUptoRow.holds Try.pinned (OpenSpec.upto fnExactSwapCircleSpec)

/-- 'laws.FnExactFollowCircles', WHERE WHAT IT READS IS OF BULK AT MOST 1048576: true; the input reads as it did. -/
def fnExactFollowCirclesUptoRow : OpenClaim := { program := "ytljikcajfmnnmab", sum := "c336ef00e5e8d2d244ef44c1a5a91712deb87f94a449e59bcdd840d4d9edbe38", func := "loop.example/g01122/laws.FnExactFollowCircles", spec := "fnExactFollowCircles", unfollowed := true, recurses := true, apart := false, narrowed := true }
def FnExactFollowCirclesUptoSaid : Prop := fnExactFollowCirclesUptoRow.holds Try.pinned (OpenSpec.upto fnExactFollowCirclesSpec)

/-- 'laws.FnExactCirclesUpTo', WHERE WHAT IT READS IS OF BULK AT MOST 1048576: true; the input reads as it did. -/
def fnExactCirclesUpToUptoRow : OpenClaim := { program := "ytljikcajfmnnmab", sum := "c336ef00e5e8d2d244ef44c1a5a91712deb87f94a449e59bcdd840d4d9edbe38", func := "loop.example/g01122/laws.FnExactCirclesUpTo", spec := "fnExactCirclesUpTo", unfollowed := true, recurses := true, apart := false, narrowed := true }
def FnExactCirclesUpToUptoSaid : Prop := fnExactCirclesUpToUptoRow.holds Try.pinned (OpenSpec.upto fnExactCirclesUpToSpec)

end Rows
end Go.Proofs.Ytljikcajfmnnmab
