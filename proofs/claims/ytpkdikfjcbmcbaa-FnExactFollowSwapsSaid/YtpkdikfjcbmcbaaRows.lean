/-
  No cell of these rows narrows 'for every input' (looked for: loops, veiled, ifaces, maps, wideKeys, modest, calm, conditions, laid).
  DERIVED. THE GIVEN ROWS OF THIS SEAT. 6 by the template 'for every input the law returns true; each argument reads behind the call as it read before'; 0 by the template 'total and deterministic' (their statements: YtpkdikfjcbmcbaaTotals.lean).
  GIVEN WITH THE SEED: the statements are not yours to turn. If you find one false, say at which input.
  Laid BY PROGRAM, IN A SANDBOX (cutbox-rows.mjs): the forced cells as the released guide's own fill.sh prints them over the translation f435046c515b58f2… (all of the seat's roots in one cut). By AI agents, Wed Nov 11 2026. No macro, syntax, notation, axiom, sorry.
-/
import Derived.Test.YtpkdikfjcbmcbaaChecked
import GoSem.Claim
import GoSem.ClaimJoined
import GoSem.ClaimMapViews
import Derived.JoinedTies
import Derived.KernelRfl
namespace Go.Proofs.Ytpkdikfjcbmcbaa
/- THE CELL 'sum', in the pinned program and in every row, IS THE sha256 OF THE DUMP (.gsa) THAT YtpkdikfjcbmcbaaProg.lean LOADS. Nothing in Lean hashes anything: it is a label: what it is worth is what the hold of that sum in a sandbox is worth. -/
noncomputable def Try.pinned : Pinned := { name := "ytpkdikfjcbmcbaa", sum := "f435046c515b58f22e6a0cdee4395818ae8f6ab1a479cb3f5ca13e046f8da32e", checked := Try.checked }
namespace Rows
def none {H : Type} : Left H := { results := [], args := [] }

/-- 'laws.FnExactIsQuad': WHATEVER THE INPUT: true; the input reads as it did. -/
def fnExactIsQuadSpec : ChangeSpec := { name := "fnExactIsQuad", fn := fun _ => fun
  | [d] => { results := [.lit (.bool true)], args := [d] }
  | _ => none }
def fnExactIsQuadRow : OpenClaim := { program := "ytpkdikfjcbmcbaa", sum := "f435046c515b58f22e6a0cdee4395818ae8f6ab1a479cb3f5ca13e046f8da32e", func := "loop.example/g01122/laws.FnExactIsQuad", spec := "fnExactIsQuad", unfollowed := true, recurses := true, apart := false }
def FnExactIsQuadSaid : Prop := fnExactIsQuadRow.holds Try.pinned (OpenSpec.ofChange fnExactIsQuadSpec)

/-- ITS FALSE NEIGHBOUR: 'it returns false'. Refute it at one input. -/
def fnExactIsQuadWrong : ChangeSpec := { name := "fnExactIsQuad", fn := fun _ => fun
  | [d] => { results := [.lit (.bool false)], args := [d] }
  | _ => none }
def FnExactIsQuadWrongFalsely : Prop := fnExactIsQuadRow.holds Try.pinned (OpenSpec.ofChange fnExactIsQuadWrong)

/-- 'laws.FnExactSwapAt': WHATEVER THE INPUT: true; the input reads as it did. -/
def fnExactSwapAtSpec : ChangeSpec := { name := "fnExactSwapAt", fn := fun _ => fun
  | [d1, d2] => { results := [.lit (.bool true)], args := [d1, d2] }
  | _ => none }
def fnExactSwapAtRow : OpenClaim := { program := "ytpkdikfjcbmcbaa", sum := "f435046c515b58f22e6a0cdee4395818ae8f6ab1a479cb3f5ca13e046f8da32e", func := "loop.example/g01122/laws.FnExactSwapAt", spec := "fnExactSwapAt", unfollowed := true, recurses := true, apart := false }
def FnExactSwapAtSaid : Prop := fnExactSwapAtRow.holds Try.pinned (OpenSpec.ofChange fnExactSwapAtSpec)

/-- ITS FALSE NEIGHBOUR: 'it returns false'. Refute it at one input. -/
def fnExactSwapAtWrong : ChangeSpec := { name := "fnExactSwapAt", fn := fun _ => fun
  | [d1, d2] => { results := [.lit (.bool false)], args := [d1, d2] }
  | _ => none }
def FnExactSwapAtWrongFalsely : Prop := fnExactSwapAtRow.holds Try.pinned (OpenSpec.ofChange fnExactSwapAtWrong)

/-- 'laws.FnExactIsRoot': WHATEVER THE INPUT: true; the input reads as it did. -/
def fnExactIsRootSpec : ChangeSpec := { name := "fnExactIsRoot", fn := fun _ => fun
  | [d] => { results := [.lit (.bool true)], args := [d] }
  | _ => none }
def fnExactIsRootRow : OpenClaim := { program := "ytpkdikfjcbmcbaa", sum := "f435046c515b58f22e6a0cdee4395818ae8f6ab1a479cb3f5ca13e046f8da32e", func := "loop.example/g01122/laws.FnExactIsRoot", spec := "fnExactIsRoot", unfollowed := true, recurses := true, apart := false }
def FnExactIsRootSaid : Prop := fnExactIsRootRow.holds Try.pinned (OpenSpec.ofChange fnExactIsRootSpec)

/-- ITS FALSE NEIGHBOUR: 'it returns false'. Refute it at one input. -/
def fnExactIsRootWrong : ChangeSpec := { name := "fnExactIsRoot", fn := fun _ => fun
  | [d] => { results := [.lit (.bool false)], args := [d] }
  | _ => none }
def FnExactIsRootWrongFalsely : Prop := fnExactIsRootRow.holds Try.pinned (OpenSpec.ofChange fnExactIsRootWrong)

/-- 'laws.FnExactDownSwap': WHATEVER THE INPUT: true; the input reads as it did. -/
def fnExactDownSwapSpec : ChangeSpec := { name := "fnExactDownSwap", fn := fun _ => fun
  | [d] => { results := [.lit (.bool true)], args := [d] }
  | _ => none }
def fnExactDownSwapRow : OpenClaim := { program := "ytpkdikfjcbmcbaa", sum := "f435046c515b58f22e6a0cdee4395818ae8f6ab1a479cb3f5ca13e046f8da32e", func := "loop.example/g01122/laws.FnExactDownSwap", spec := "fnExactDownSwap", unfollowed := true, recurses := true, apart := false }
def FnExactDownSwapSaid : Prop := fnExactDownSwapRow.holds Try.pinned (OpenSpec.ofChange fnExactDownSwapSpec)

/-- ITS FALSE NEIGHBOUR: 'it returns false'. Refute it at one input. -/
def fnExactDownSwapWrong : ChangeSpec := { name := "fnExactDownSwap", fn := fun _ => fun
  | [d] => { results := [.lit (.bool false)], args := [d] }
  | _ => none }
def FnExactDownSwapWrongFalsely : Prop := fnExactDownSwapRow.holds Try.pinned (OpenSpec.ofChange fnExactDownSwapWrong)

/-- 'laws.FnExactFollowSwaps': WHATEVER THE INPUT: true; the input reads as it did. -/
def fnExactFollowSwapsSpec : ChangeSpec := { name := "fnExactFollowSwaps", fn := fun _ => fun
  | [d1, d2] => { results := [.lit (.bool true)], args := [d1, d2] }
  | _ => none }
def fnExactFollowSwapsRow : OpenClaim := { program := "ytpkdikfjcbmcbaa", sum := "f435046c515b58f22e6a0cdee4395818ae8f6ab1a479cb3f5ca13e046f8da32e", func := "loop.example/g01122/laws.FnExactFollowSwaps", spec := "fnExactFollowSwaps", unfollowed := true, recurses := true, apart := false }
def FnExactFollowSwapsSaid : Prop := fnExactFollowSwapsRow.holds Try.pinned (OpenSpec.ofChange fnExactFollowSwapsSpec)

/-- ITS FALSE NEIGHBOUR: 'it returns false'. Refute it at one input. -/
def fnExactFollowSwapsWrong : ChangeSpec := { name := "fnExactFollowSwaps", fn := fun _ => fun
  | [d1, d2] => { results := [.lit (.bool false)], args := [d1, d2] }
  | _ => none }
def FnExactFollowSwapsWrongFalsely : Prop := fnExactFollowSwapsRow.holds Try.pinned (OpenSpec.ofChange fnExactFollowSwapsWrong)

/-- 'laws.FnExactScaleOf': WHATEVER THE INPUT: true; the input reads as it did. -/
def fnExactScaleOfSpec : ChangeSpec := { name := "fnExactScaleOf", fn := fun _ => fun
  | [d] => { results := [.lit (.bool true)], args := [d] }
  | _ => none }
def fnExactScaleOfRow : OpenClaim := { program := "ytpkdikfjcbmcbaa", sum := "f435046c515b58f22e6a0cdee4395818ae8f6ab1a479cb3f5ca13e046f8da32e", func := "loop.example/g01122/laws.FnExactScaleOf", spec := "fnExactScaleOf", unfollowed := true, recurses := true, apart := false }
def FnExactScaleOfSaid : Prop := fnExactScaleOfRow.holds Try.pinned (OpenSpec.ofChange fnExactScaleOfSpec)

/-- ITS FALSE NEIGHBOUR: 'it returns false'. Refute it at one input. -/
def fnExactScaleOfWrong : ChangeSpec := { name := "fnExactScaleOf", fn := fun _ => fun
  | [d] => { results := [.lit (.bool false)], args := [d] }
  | _ => none }
def FnExactScaleOfWrongFalsely : Prop := fnExactScaleOfRow.holds Try.pinned (OpenSpec.ofChange fnExactScaleOfWrong)

/- THE SECOND FORM. 'bulk': how many values and letters a reading holds, each counted each time it is reached (what is shared counts as often as it is met; a slice's spare places count too). A statement '..UptoSaid' is the law's where the arguments, and the package variables that the reading takes, are together of bulk at most 1048576: NARROWER than '..Said'. Prove '..Said' where nothing that the law and all that it calls make is longer than what came in: it says more and counts as full. Else prove '..UptoSaid'. A law counts once. -/
mutual
def uptoBulk {H : Type} : DataW H → Nat
  | .lit (.string bytes) => bytes.length + 1
  | .lit _ => 1
  | .nil => 1
  | .ptr d => uptoBulk d + 1
  | .slice elems spare => uptoBulkAll elems + uptoBulkAll spare + 1
  | .agg parts => uptoBulkAll parts + 1
  | .iface _ d => uptoBulk d + 1
  | .map entries => uptoBulkEntries entries + 1
  | .held _ => 1
def uptoBulkAll {H : Type} : List (DataW H) → Nat
  | [] => 0
  | d :: r => uptoBulk d + uptoBulkAll r
def uptoBulkEntries {H : Type} : List (Lit × DataW H) → Nat
  | [] => 0
  | x :: r => uptoBulkEntry x + uptoBulkEntries r
def uptoBulkEntry {H : Type} : Lit × DataW H → Nat
  | (.string bytes, d) => bytes.length + uptoBulk d + 1
  | (_, d) => uptoBulk d + 1
 end
def uptoSmall : (H : Type) → List (DataW H) → Bool := fun _ ds => decide (uptoBulkAll ds ≤ 1048576)
def OpenSpec.upto (s : _root_.Go.ChangeSpec) : _root_.Go.OpenSpec := { _root_.Go.OpenSpec.ofChange s with cond := some uptoSmall }

/-- 'laws.FnExactIsQuad', WHERE WHAT IT READS IS OF BULK AT MOST 1048576: true; the input reads as it did. -/
def fnExactIsQuadUptoRow : OpenClaim := { program := "ytpkdikfjcbmcbaa", sum := "f435046c515b58f22e6a0cdee4395818ae8f6ab1a479cb3f5ca13e046f8da32e", func := "loop.example/g01122/laws.FnExactIsQuad", spec := "fnExactIsQuad", unfollowed := true, recurses := true, apart := false, narrowed := true }
def FnExactIsQuadUptoSaid : Prop := fnExactIsQuadUptoRow.holds Try.pinned (OpenSpec.upto fnExactIsQuadSpec)

/-- 'laws.FnExactSwapAt', WHERE WHAT IT READS IS OF BULK AT MOST 1048576: true; the input reads as it did. -/
def fnExactSwapAtUptoRow : OpenClaim := { program := "ytpkdikfjcbmcbaa", sum := "f435046c515b58f22e6a0cdee4395818ae8f6ab1a479cb3f5ca13e046f8da32e", func := "loop.example/g01122/laws.FnExactSwapAt", spec := "fnExactSwapAt", unfollowed := true, recurses := true, apart := false, narrowed := true }
def FnExactSwapAtUptoSaid : Prop := fnExactSwapAtUptoRow.holds Try.pinned (OpenSpec.upto fnExactSwapAtSpec)

/-- 'laws.FnExactIsRoot', WHERE WHAT IT READS IS OF BULK AT MOST 1048576: true; the input reads as it did. -/
def fnExactIsRootUptoRow : OpenClaim := { program := "ytpkdikfjcbmcbaa", sum := "f435046c515b58f22e6a0cdee4395818ae8f6ab1a479cb3f5ca13e046f8da32e", func := "loop.example/g01122/laws.FnExactIsRoot", spec := "fnExactIsRoot", unfollowed := true, recurses := true, apart := false, narrowed := true }
def FnExactIsRootUptoSaid : Prop := fnExactIsRootUptoRow.holds Try.pinned (OpenSpec.upto fnExactIsRootSpec)

/-- 'laws.FnExactDownSwap', WHERE WHAT IT READS IS OF BULK AT MOST 1048576: true; the input reads as it did. -/
def fnExactDownSwapUptoRow : OpenClaim := { program := "ytpkdikfjcbmcbaa", sum := "f435046c515b58f22e6a0cdee4395818ae8f6ab1a479cb3f5ca13e046f8da32e", func := "loop.example/g01122/laws.FnExactDownSwap", spec := "fnExactDownSwap", unfollowed := true, recurses := true, apart := false, narrowed := true }
def FnExactDownSwapUptoSaid : Prop := fnExactDownSwapUptoRow.holds Try.pinned (OpenSpec.upto fnExactDownSwapSpec)

/-- 'laws.FnExactFollowSwaps', WHERE WHAT IT READS IS OF BULK AT MOST 1048576: true; the input reads as it did. -/
def fnExactFollowSwapsUptoRow : OpenClaim := { program := "ytpkdikfjcbmcbaa", sum := "f435046c515b58f22e6a0cdee4395818ae8f6ab1a479cb3f5ca13e046f8da32e", func := "loop.example/g01122/laws.FnExactFollowSwaps", spec := "fnExactFollowSwaps", unfollowed := true, recurses := true, apart := false, narrowed := true }
def FnExactFollowSwapsUptoSaid : Prop := fnExactFollowSwapsUptoRow.holds Try.pinned (OpenSpec.upto fnExactFollowSwapsSpec)

/-- 'laws.FnExactScaleOf', WHERE WHAT IT READS IS OF BULK AT MOST 1048576: true; the input reads as it did. -/
def fnExactScaleOfUptoRow : OpenClaim := { program := "ytpkdikfjcbmcbaa", sum := "f435046c515b58f22e6a0cdee4395818ae8f6ab1a479cb3f5ca13e046f8da32e", func := "loop.example/g01122/laws.FnExactScaleOf", spec := "fnExactScaleOf", unfollowed := true, recurses := true, apart := false, narrowed := true }
def FnExactScaleOfUptoSaid : Prop := fnExactScaleOfUptoRow.holds Try.pinned (OpenSpec.upto fnExactScaleOfSpec)

end Rows
end Go.Proofs.Ytpkdikfjcbmcbaa
