/- Runs of pairs (the program): run, descentFrom, behindJump. -/
import Derived.Test.YtdahhcigphhfdaaJpF
import Derived.Test.YtdahhcigphhfdaaJpKL
namespace Go.Proofs.Ytdahhcigphhfdaa
open Go.RowKit

def JpRun (w : World) (L : List Jp2) (e : Ending) (w' : World) : Prop := ∃ v, e = .returned v ∧ OwnJps w.heap.size w' v L ∧ Later w w'
theorem OwnJps.lt {lo : Nat} {w : World} {v : Value} {L : List Jp2} (h : OwnJps lo w v L) (b : Nat) (hb : v.ownBlock = some b) : lo ≤ b ∧ b < w.heap.size := World.ownsRow.lt h b hb
theorem OwnJps.setJ {lo : Nat} {w : World} {v : Value} {L : List Jp2} (h : OwnJps lo w v L) {B : Nat} (hB : B < lo) (p q : Value) : OwnJps lo ((w.setCell ⟨B, 0, none⟩ p).setCell ⟨B, 1, none⟩ q) v L :=
  ownsRow_keepJ h fun b hb => setJ_far _ _ _ _ _ (by have := (h.lt b hb).1; omega)
end Go.Proofs.Ytdahhcigphhfdaa
