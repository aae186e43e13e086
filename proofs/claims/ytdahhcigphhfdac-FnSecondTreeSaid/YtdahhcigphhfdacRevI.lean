/- slices.Reverse at a row of ints of one's own. -/
import Derived.Test.YtdahhcigphhfdacLayRevI
import Derived.Test.YtdahhcigphhfdacBasB
import Derived.Lib.OwnBridge
namespace Go.Proofs.Ytdahhcigphhfdac
open Go.RowKit

theorem revI_any (lo hi : Nat) (v : Value) (zs : List Int) (w : World) (hb : zs.length ≤ 1000000) (h : OwnInts lo hi w v zs) :
    Calls Try.prog 105 #[v] w fun e w' => e = .returned (.tuple #[]) ∧ OwnInts lo hi w' v zs.reverse ∧ (∀ w0, Later w0 w → w0.heap.size ≤ lo → Later w0 w') ∧ w.heap.size ≤ w'.heap.size := by
  rcases h.form with ⟨rfl, rfl⟩ | ⟨g, cap, rfl⟩
  · refine (Go.Proofs.Any.slices_Reverse_int_empty laysLays112 none 0 w).mono ?_
    rintro e w' ⟨rfl, rfl⟩
    exact ⟨rfl, h, fun w0 hL _ => hL, Nat.le_refl _⟩
  · obtain ⟨g', cap', e0, hlo, hgl, _, _, _, hH⟩ := Go.Lib.holds_of_ownsRow h.1 (by simp)
    simp only [Value.slice.injEq, Option.some.injEq, Addr.mk.injEq, and_true, true_and] at e0
    obtain ⟨rfl, rfl⟩ := e0
    refine (Go.Proofs.Any.slices_Reverse_int laysLays112 g 0 cap zs w hH (by omega)).mono ?_
    rintro e w' ⟨rfl, n, rfl⟩
    have h2 := Go.Lib.ownsRow_putRow (q := n) (k := zs.length) (ys := zs.reverse) h.1 (by simp) (Nat.le_refl _)
    rw [List.take_of_length_le (by simp)] at h2
    refine ⟨rfl, ⟨by simpa using h2, h.2⟩, fun w0 hL hw => Go.Lib.below_putRow hL (by omega), (Go.Lib.below_putRow (Below.refl 0 w) (Nat.zero_le _)).size⟩
end Go.Proofs.Ytdahhcigphhfdac
