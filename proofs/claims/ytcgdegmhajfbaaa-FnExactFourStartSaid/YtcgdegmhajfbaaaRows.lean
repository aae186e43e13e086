/-
  No cell of these rows narrows 'for every input' (looked for: loops, veiled, ifaces, maps, wideKeys, modest, calm, conditions, laid).
  DERIVED. THE GIVEN ROWS OF THIS SEAT. 7 by the template 'for every input the law returns true; each argument reads behind the call as it read before'; 0 by the template 'total and deterministic' (their statements: YtcgdegmhajfbaaaTotals.lean).
  GIVEN WITH THE SEED: the statements are not yours to turn. If you find one false, say at which input.
  Laid BY PROGRAM, IN A SANDBOX (cutbox-rows.mjs): the forced cells as the released guide's own fill.sh prints them over the translation 3efaca5ff3cb5161… (all of the seat's roots in one cut). By AI agents, Wed Nov 11 2026. No macro, syntax, notation, axiom, sorry.
-/
import Derived.Test.YtcgdegmhajfbaaaChecked
import GoSem.Claim
import GoSem.ClaimJoined
import GoSem.ClaimMapViews
import Derived.JoinedTies
import Derived.KernelRfl
namespace Go.Proofs.Ytcgdegmhajfbaaa
/- THE CELL 'sum', in the pinned program and in every row, IS THE sha256 OF THE DUMP (.gsa) THAT YtcgdegmhajfbaaaProg.lean LOADS. Nothing in Lean hashes anything: it is a label: what it is worth is what the hold of that sum in a sandbox is worth. -/
noncomputable def Try.pinned : Pinned := { name := "ytcgdegmhajfbaaa", sum := "3efaca5ff3cb5161f75f2785c55abe04db8af17690c468ef31265a2298027ee4", checked := Try.checked }
namespace Rows
def none {H : Type} : Left H := { results := [], args := [] }

/-- 'laws.FnExactIsPrimeNumber': WHATEVER THE INPUT: true; the input reads as it did. -/
def fnExactIsPrimeNumberSpec : ChangeSpec := { name := "fnExactIsPrimeNumber", fn := fun _ => fun
  | [d] => { results := [.lit (.bool true)], args := [d] }
  | _ => none }
def fnExactIsPrimeNumberRow : OpenClaim := { program := "ytcgdegmhajfbaaa", sum := "3efaca5ff3cb5161f75f2785c55abe04db8af17690c468ef31265a2298027ee4", func := "loop.example/g01122/laws.FnExactIsPrimeNumber", spec := "fnExactIsPrimeNumber", apart := false }
def FnExactIsPrimeNumberSaid : Prop := fnExactIsPrimeNumberRow.holds Try.pinned (OpenSpec.ofChange fnExactIsPrimeNumberSpec)

/-- ITS FALSE NEIGHBOUR: 'it returns false'. Refute it at one input. -/
def fnExactIsPrimeNumberWrong : ChangeSpec := { name := "fnExactIsPrimeNumber", fn := fun _ => fun
  | [d] => { results := [.lit (.bool false)], args := [d] }
  | _ => none }
def FnExactIsPrimeNumberWrongFalsely : Prop := fnExactIsPrimeNumberRow.holds Try.pinned (OpenSpec.ofChange fnExactIsPrimeNumberWrong)

/-- 'laws.FnExactRootOfMinusOne': WHATEVER THE INPUT: true; the input reads as it did. -/
def fnExactRootOfMinusOneSpec : ChangeSpec := { name := "fnExactRootOfMinusOne", fn := fun _ => fun
  | [d] => { results := [.lit (.bool true)], args := [d] }
  | _ => none }
def fnExactRootOfMinusOneRow : OpenClaim := { program := "ytcgdegmhajfbaaa", sum := "3efaca5ff3cb5161f75f2785c55abe04db8af17690c468ef31265a2298027ee4", func := "loop.example/g01122/laws.FnExactRootOfMinusOne", spec := "fnExactRootOfMinusOne", recurses := true, apart := false }
def FnExactRootOfMinusOneSaid : Prop := fnExactRootOfMinusOneRow.holds Try.pinned (OpenSpec.ofChange fnExactRootOfMinusOneSpec)

/-- ITS FALSE NEIGHBOUR: 'it returns false'. Refute it at one input. -/
def fnExactRootOfMinusOneWrong : ChangeSpec := { name := "fnExactRootOfMinusOne", fn := fun _ => fun
  | [d] => { results := [.lit (.bool false)], args := [d] }
  | _ => none }
def FnExactRootOfMinusOneWrongFalsely : Prop := fnExactRootOfMinusOneRow.holds Try.pinned (OpenSpec.ofChange fnExactRootOfMinusOneWrong)

/-- 'laws.FnExactRefusingPrime': WHATEVER THE INPUT: true; the input reads as it did. -/
def fnExactRefusingPrimeSpec : ChangeSpec := { name := "fnExactRefusingPrime", fn := fun _ => fun
  | [d] => { results := [.lit (.bool true)], args := [d] }
  | _ => none }
def fnExactRefusingPrimeRow : OpenClaim := { program := "ytcgdegmhajfbaaa", sum := "3efaca5ff3cb5161f75f2785c55abe04db8af17690c468ef31265a2298027ee4", func := "loop.example/g01122/laws.FnExactRefusingPrime", spec := "fnExactRefusingPrime", apart := false }
def FnExactRefusingPrimeSaid : Prop := fnExactRefusingPrimeRow.holds Try.pinned (OpenSpec.ofChange fnExactRefusingPrimeSpec)

/-- ITS FALSE NEIGHBOUR: 'it returns false'. Refute it at one input. -/
def fnExactRefusingPrimeWrong : ChangeSpec := { name := "fnExactRefusingPrime", fn := fun _ => fun
  | [d] => { results := [.lit (.bool false)], args := [d] }
  | _ => none }
def FnExactRefusingPrimeWrongFalsely : Prop := fnExactRefusingPrimeRow.holds Try.pinned (OpenSpec.ofChange fnExactRefusingPrimeWrong)

/-- 'laws.FnExactDivisorBalance': WHATEVER THE INPUT: true; the input reads as it did. -/
def fnExactDivisorBalanceSpec : ChangeSpec := { name := "fnExactDivisorBalance", fn := fun _ => fun
  | [d] => { results := [.lit (.bool true)], args := [d] }
  | _ => none }
def fnExactDivisorBalanceRow : OpenClaim := { program := "ytcgdegmhajfbaaa", sum := "3efaca5ff3cb5161f75f2785c55abe04db8af17690c468ef31265a2298027ee4", func := "loop.example/g01122/laws.FnExactDivisorBalance", spec := "fnExactDivisorBalance", unfollowed := true, recurses := true, apart := false }
def FnExactDivisorBalanceSaid : Prop := fnExactDivisorBalanceRow.holds Try.pinned (OpenSpec.ofChange fnExactDivisorBalanceSpec)

/-- ITS FALSE NEIGHBOUR: 'it returns false'. Refute it at one input. -/
def fnExactDivisorBalanceWrong : ChangeSpec := { name := "fnExactDivisorBalance", fn := fun _ => fun
  | [d] => { results := [.lit (.bool false)], args := [d] }
  | _ => none }
def FnExactDivisorBalanceWrongFalsely : Prop := fnExactDivisorBalanceRow.holds Try.pinned (OpenSpec.ofChange fnExactDivisorBalanceWrong)

/-- 'laws.FnExactIsRefusedByEight': WHATEVER THE INPUT: true; the input reads as it did. -/
def fnExactIsRefusedByEightSpec : ChangeSpec := { name := "fnExactIsRefusedByEight", fn := fun _ => fun
  | [d] => { results := [.lit (.bool true)], args := [d] }
  | _ => none }
def fnExactIsRefusedByEightRow : OpenClaim := { program := "ytcgdegmhajfbaaa", sum := "3efaca5ff3cb5161f75f2785c55abe04db8af17690c468ef31265a2298027ee4", func := "loop.example/g01122/laws.FnExactIsRefusedByEight", spec := "fnExactIsRefusedByEight", apart := false }
def FnExactIsRefusedByEightSaid : Prop := fnExactIsRefusedByEightRow.holds Try.pinned (OpenSpec.ofChange fnExactIsRefusedByEightSpec)

/-- ITS FALSE NEIGHBOUR: 'it returns false'. Refute it at one input. -/
def fnExactIsRefusedByEightWrong : ChangeSpec := { name := "fnExactIsRefusedByEight", fn := fun _ => fun
  | [d] => { results := [.lit (.bool false)], args := [d] }
  | _ => none }
def FnExactIsRefusedByEightWrongFalsely : Prop := fnExactIsRefusedByEightRow.holds Try.pinned (OpenSpec.ofChange fnExactIsRefusedByEightWrong)

/-- 'laws.FnExactDivisorSumFour': WHATEVER THE INPUT: true; the input reads as it did. -/
def fnExactDivisorSumFourSpec : ChangeSpec := { name := "fnExactDivisorSumFour", fn := fun _ => fun
  | [d] => { results := [.lit (.bool true)], args := [d] }
  | _ => none }
def fnExactDivisorSumFourRow : OpenClaim := { program := "ytcgdegmhajfbaaa", sum := "3efaca5ff3cb5161f75f2785c55abe04db8af17690c468ef31265a2298027ee4", func := "loop.example/g01122/laws.FnExactDivisorSumFour", spec := "fnExactDivisorSumFour", unfollowed := true, recurses := true, apart := false }
def FnExactDivisorSumFourSaid : Prop := fnExactDivisorSumFourRow.holds Try.pinned (OpenSpec.ofChange fnExactDivisorSumFourSpec)

/-- ITS FALSE NEIGHBOUR: 'it returns false'. Refute it at one input. -/
def fnExactDivisorSumFourWrong : ChangeSpec := { name := "fnExactDivisorSumFour", fn := fun _ => fun
  | [d] => { results := [.lit (.bool false)], args := [d] }
  | _ => none }
def FnExactDivisorSumFourWrongFalsely : Prop := fnExactDivisorSumFourRow.holds Try.pinned (OpenSpec.ofChange fnExactDivisorSumFourWrong)

/-- 'laws.FnExactFourStart': WHATEVER THE INPUT: true; the input reads as it did. -/
def fnExactFourStartSpec : ChangeSpec := { name := "fnExactFourStart", fn := fun _ => fun
  | [d] => { results := [.lit (.bool true)], args := [d] }
  | _ => none }
def fnExactFourStartRow : OpenClaim := { program := "ytcgdegmhajfbaaa", sum := "3efaca5ff3cb5161f75f2785c55abe04db8af17690c468ef31265a2298027ee4", func := "loop.example/g01122/laws.FnExactFourStart", spec := "fnExactFourStart", apart := false }
def FnExactFourStartSaid : Prop := fnExactFourStartRow.holds Try.pinned (OpenSpec.ofChange fnExactFourStartSpec)

/-- ITS FALSE NEIGHBOUR: 'it returns false'. Refute it at one input. -/
def fnExactFourStartWrong : ChangeSpec := { name := "fnExactFourStart", fn := fun _ => fun
  | [d] => { results := [.lit (.bool false)], args := [d] }
  | _ => none }
def FnExactFourStartWrongFalsely : Prop := fnExactFourStartRow.holds Try.pinned (OpenSpec.ofChange fnExactFourStartWrong)

/- THE SECOND FORM. 'bulk': how many values and letters a reading holds, each counted each time it is reached (what is shared counts as often as it is met; a slice's spare places count too). A statement '..UptoSaid' is the law's where the arguments, and the package variables that the reading takes, are together of bulk at most 1048576: NARROWER than '..Said'. Prove '..Said' where nothing that the law and all that it calls make is longer than what came in: it says more and counts as full. Else prove '..UptoSaid'. A law counts once. -/
mutual
def uptoBulk {H : Type} : DataW H → Nat
  | .lit (.string bytes) => bytes.length + 1
  | .lit _ => 1
  | .nil => 1
  | .ptr d => uptoBulk d + 1
  | .slice elems spare => uptoBulkAll elems + uptoBulkAll spare + 1
  | .agg parts => uptoBulkAll parts + 1
  | .iface _ d => uptoBulk d + 1
  | .map entries => uptoBulkEntries entries + 1
  | .held _ => 1
def uptoBulkAll {H : Type} : List (DataW H) → Nat
  | [] => 0
  | d :: r => uptoBulk d + uptoBulkAll r
def uptoBulkEntries {H : Type} : List (Lit × DataW H) → Nat
  | [] => 0
  | x :: r => uptoBulkEntry x + uptoBulkEntries r
def uptoBulkEntry {H : Type} : Lit × DataW H → Nat
  | (.string bytes, d) => bytes.length + uptoBulk d + 1
  | (_, d) => uptoBulk d + 1
 end
def uptoSmall : (H : Type) → List (DataW H) → Bool := fun _ ds => decide (uptoBulkAll ds ≤ 1048576)
def OpenSpec.upto (s : _root_.Go.ChangeSpec) : _root_.Go.OpenSpec := { _root_.Go.OpenSpec.ofChange s with cond := some uptoSmall }

/-- 'laws.FnExactIsPrimeNumber', WHERE WHAT IT READS IS OF BULK AT MOST 1048576: true; the input reads as it did. -/
def fnExactIsPrimeNumberUptoRow : OpenClaim := { program := "ytcgdegmhajfbaaa", sum := "3efaca5ff3cb5161f75f2785c55abe04db8af17690c468ef31265a2298027ee4", func := "loop.example/g01122/laws.FnExactIsPrimeNumber", spec := "fnExactIsPrimeNumber", apart := false, narrowed := true }
def FnExactIsPrimeNumberUptoSaid : Prop := fnExactIsPrimeNumberUptoRow.holds Try.pinned (OpenSpec.upto fnExactIsPrimeNumberSpec)

/-- 'laws.FnExactRootOfMinusOne', WHERE WHAT IT READS IS OF BULK AT MOST 1048576: true; the input reads as it did. -/
def fnExactRootOfMinusOneUptoRow : OpenClaim := { program := "ytcgdegmhajfbaaa", sum := "3efaca5ff3cb5161f75f2785c55abe04db8af17690c468ef31265a2298027ee4", func := "loop.example/g01122/laws.FnExactRootOfMinusOne", spec := "fnExactRootOfMinusOne", recurses := true, apart := false, narrowed := true }
def FnExactRootOfMinusOneUptoSaid : Prop := fnExactRootOfMinusOneUptoRow.holds Try.pinned (OpenSpec.upto fnExactRootOfMinusOneSpec)

/-- 'laws.FnExactRefusingPrime', WHERE WHAT IT READS IS OF BULK AT MOST 1048576: true; the input reads as it did. -/
def fnExactRefusingPrimeUptoRow : OpenClaim := { program := "ytcgdegmhajfbaaa", sum := "3efaca5ff3cb5161f75f2785c55abe04db8af17690c468ef31265a2298027ee4", func := "loop.example/g01122/laws.FnExactRefusingPrime", spec := "fnExactRefusingPrime", apart := false, narrowed := true }
def FnExactRefusingPrimeUptoSaid : Prop := fnExactRefusingPrimeUptoRow.holds Try.pinned (OpenSpec.upto fnExactRefusingPrimeSpec)

/-- 'laws.FnExactDivisorBalance', WHERE WHAT IT READS IS OF BULK AT MOST 1048576: true; the input reads as it did. -/
def fnExactDivisorBalanceUptoRow : OpenClaim := { program := "ytcgdegmhajfbaaa", sum := "3efaca5ff3cb5161f75f2785c55abe04db8af17690c468ef31265a2298027ee4", func := "loop.example/g01122/laws.FnExactDivisorBalance", spec := "fnExactDivisorBalance", unfollowed := true, recurses := true, apart := false, narrowed := true }
def FnExactDivisorBalanceUptoSaid : Prop := fnExactDivisorBalanceUptoRow.holds Try.pinned (OpenSpec.upto fnExactDivisorBalanceSpec)

/-- 'laws.FnExactIsRefusedByEight', WHERE WHAT IT READS IS OF BULK AT MOST 1048576: true; the input reads as it did. -/
def fnExactIsRefusedByEightUptoRow : OpenClaim := { program := "ytcgdegmhajfbaaa", sum := "3efaca5ff3cb5161f75f2785c55abe04db8af17690c468ef31265a2298027ee4", func := "loop.example/g01122/laws.FnExactIsRefusedByEight", spec := "fnExactIsRefusedByEight", apart := false, narrowed := true }
def FnExactIsRefusedByEightUptoSaid : Prop := fnExactIsRefusedByEightUptoRow.holds Try.pinned (OpenSpec.upto fnExactIsRefusedByEightSpec)

/-- 'laws.FnExactDivisorSumFour', WHERE WHAT IT READS IS OF BULK AT MOST 1048576: true; the input reads as it did. -/
def fnExactDivisorSumFourUptoRow : OpenClaim := { program := "ytcgdegmhajfbaaa", sum := "3efaca5ff3cb5161f75f2785c55abe04db8af17690c468ef31265a2298027ee4", func := "loop.example/g01122/laws.FnExactDivisorSumFour", spec := "fnExactDivisorSumFour", unfollowed := true, recurses := true, apart := false, narrowed := true }
def FnExactDivisorSumFourUptoSaid : Prop := fnExactDivisorSumFourUptoRow.holds Try.pinned (OpenSpec.upto fnExactDivisorSumFourSpec)

/-- 'laws.FnExactFourStart', WHERE WHAT IT READS IS OF BULK AT MOST 1048576: true; the input reads as it did. -/
def fnExactFourStartUptoRow : OpenClaim := { program := "ytcgdegmhajfbaaa", sum := "3efaca5ff3cb5161f75f2785c55abe04db8af17690c468ef31265a2298027ee4", func := "loop.example/g01122/laws.FnExactFourStart", spec := "fnExactFourStart", apart := false, narrowed := true }
def FnExactFourStartUptoSaid : Prop := fnExactFourStartUptoRow.holds Try.pinned (OpenSpec.upto fnExactFourStartSpec)

end Rows
end Go.Proofs.Ytcgdegmhajfbaaa
