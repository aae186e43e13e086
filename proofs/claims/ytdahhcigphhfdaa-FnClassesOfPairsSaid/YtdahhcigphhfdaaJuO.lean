/- The least pair of a pair: the model. -/
import Derived.Test.YtdahhcigphhfdaaJuN
namespace Go.Proofs.Ytdahhcigphhfdaa
open Go.RowKit

/-- What is left of a way down: so many jumps are enough. -/
def LeftJ (k : Int) (R : Jp2) (p : Jp2) : Prop := ∃ n, leastJ k n p = R ∧ (p.1 + p.2).toNat ≤ n
theorem LeftJ.start (k : Int) (p : Jp2) : LeftJ k (leastOf k p) p := ⟨_, rfl, Nat.le_refl _⟩
theorem LeftJ.step {k : Int} {R p q : Jp2} (h : LeftJ k R p) (hp : jpN p) (e : dnJ k p = some q) : LeftJ k R q := by
  obtain ⟨n, h1, h2⟩ := h
  obtain ⟨g1, g2⟩ := dnJ_good hp e
  obtain ⟨g3, g4, g5⟩ := g1
  cases n with
  | zero => omega
  | succ n => exact ⟨n, by rw [leastJ_some e] at h1; exact h1, by omega⟩
theorem LeftJ.done {k : Int} {R p : Jp2} (h : LeftJ k R p) (e : dnJ k p = none) : R = p := by
  obtain ⟨n, h1, _⟩ := h
  rw [leastJ_none e] at h1
  exact h1.symm
theorem juDown_as (x y k : Int) (w : World) (hk : 0 ≤ k ∧ k ≤ 1000000000000) (hp : jpN (x, y)) (o : Option Jp2) (h : dnJ k (x, y) = o) :
    Calls Try.prog 136 #[.int .i64 x, .int .i64 y, .int .i64 k] w fun e w' => e = .returned (.tuple #[.int .i64 (o.getD (0, 0)).1, .int .i64 (o.getD (0, 0)).2, .bool o.isSome]) ∧ w = w' := by
  subst h; exact juDown_any x y k w hk hp
end Go.Proofs.Ytdahhcigphhfdaa
