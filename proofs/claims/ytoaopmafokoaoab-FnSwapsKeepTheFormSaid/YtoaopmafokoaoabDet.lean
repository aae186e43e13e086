/- Contracts of determinants: the program's. -/
import Derived.Test.YtoaopmafokoaoabTrace
namespace Go.Proofs.Ytoaopmafokoaoab
open Go.RowKit

def sgn (k : Nat) : Int := if k % 2 = 0 then 1 else -1
def skip (r i : Nat) : Nat := if r ≤ i then i + 1 else i
/-- without a row and a column; n: its size -/
def minorM (n : Nat) (m : List (List Int)) (r c : Nat) : List (List Int) := mk n fun i j => ent m (skip r i) (skip c j)
def det : Nat → List (List Int) → Int
  | 0, _ => 1
  | n + 1, m => wsum (fun j => wrap64 (wrap64 (sgn j * ent m 0 j) * det n (minorM n m 0 j))) (n + 1)
theorem skip_lt {n r i : Nat} (h : i < n) : skip r i < n + 1 := by unfold skip; split <;> omega

theorem add_at (a : Addr) (i : Nat) : a.add (i + 1) = ⟨a.block, a.off + (i + 1), none⟩ := by simp [Addr.add]

def DetAt (n : Nat) : Prop := ∀ (m : List (List Int)), Sq n m → ∀ (v : Value) (w : World), Rows2 w v m →
  Calls Try.prog 154 #[v] w fun e w' => e = .returned (.int .i64 (det n m)) ∧ Later w w'

theorem minorM_sq (n : Nat) (m : List (List Int)) (r c : Nat) : Sq n (minorM n m r c) := Sq.mk' _ _

def detAns (m : List (List Int)) : Option Int := whenGood 1000 m (det m.length m)

end Go.Proofs.Ytoaopmafokoaoab
