/- Contracts of the marks: markIntS .., heldIntS ..: what is marked is held. -/
import Derived.Test.YtmmapfdmdliifaaEq
namespace Go.Proofs.Ytmmapfdmdliifaa
open Go.RowKit

def iota (k : Int) (n : Nat) : List Int := (List.range n).map fun i : Nat => k + (i : Int)
theorem iota_length (k : Int) (n : Nat) : (iota k n).length = n := by simp [iota]
theorem iota_at (k : Int) (n i : Nat) (h : i < n) : (iota k n).getD i 0 = k + i := by simp [iota, h]
/-- how many cells lie before row j -/
def off (zss : List (List Int)) (j : Nat) : Nat := ((zss.take j).map List.length).sum
theorem off_zero (zss : List (List Int)) : off zss 0 = 0 := by simp [off]
theorem off_succ (zss : List (List Int)) (j : Nat) (h : j < zss.length) : off zss (j + 1) = off zss j + (zss.getD j []).length := by
  unfold off; rw [take_snoc zss j h, List.map_append, List.sum_append]; simp [h]
theorem off_mono (zss : List (List Int)) (d j : Nat) : off zss j ≤ off zss (j + d) := by
  induction d with
  | zero => exact Nat.le_refl _
  | succ d ih =>
    by_cases h : j + d < zss.length
    · have := off_succ zss (j + d) h; rw [← Nat.add_assoc]; omega
    · have : off zss (j + (d + 1)) = off zss (j + d) := by
        unfold off; rw [List.take_of_length_le (by omega), List.take_of_length_le (show zss.length ≤ j + d by omega)]
      omega
theorem off_le (zss : List (List Int)) (j m : Nat) (h : j ≤ m) : off zss j ≤ off zss m := by
  have := off_mono zss (m - j) j; rwa [show j + (m - j) = m by omega] at this
theorem off_bound (zss : List (List Int)) (M n : Nat) (h : ∀ i, i < zss.length → (zss.getD i []).length ≤ M) (hn : n ≤ zss.length) : off zss n ≤ n * M := by
  induction n with
  | zero => simp [off_zero]
  | succ n ih =>
    have h1 := off_succ zss n (by omega)
    have h2 := h n (by omega)
    have h3 := ih (by omega)
    rw [Nat.add_mul]; omega
theorem off_args (zss : List (List Int)) (h : ∀ i, i < zss.length → (zss.getD i []).length ≤ 1048576) (hn : zss.length ≤ 1048576) : off zss zss.length ≤ 1099511627776 := by
  have h1 := off_bound zss 1048576 zss.length h (Nat.le_refl _)
  have h2 := Nat.mul_le_mul_right 1048576 hn
  omega
def marks (k : Int) (zss : List (List Int)) : List (List Int) := (List.range zss.length).map fun j => iota (k + off zss j) (zss.getD j []).length
theorem marks_length (k : Int) (zss : List (List Int)) : (marks k zss).length = zss.length := by simp [marks]
theorem marks_at (k : Int) (zss : List (List Int)) (j : Nat) (h : j < zss.length) : (marks k zss).getD j [] = iota (k + off zss j) (zss.getD j []).length := by simp [marks, h]

/-- Only blocks that B tells may have turned. -/
structure Wrote (B : Nat → Prop) (w w' : World) : Prop where
  os : w'.os = w.os
  tape : w'.tape = w.tape
  output : w'.output = w.output
  size : w'.heap.size = w.heap.size
  block : ∀ k, ¬ B k → w'.heap[k]? = w.heap[k]?
theorem Wrote.refl (B : Nat → Prop) (w : World) : Wrote B w w := ⟨rfl, rfl, rfl, rfl, fun _ _ => rfl⟩
theorem Wrote.trans {B : Nat → Prop} {a b c : World} (h : Wrote B a b) (k : Wrote B b c) : Wrote B a c :=
  ⟨k.os.trans h.os, k.tape.trans h.tape, k.output.trans h.output, k.size.trans h.size, fun i hi => (k.block i hi).trans (h.block i hi)⟩
theorem Wrote.mono {B C : Nat → Prop} {a b : World} (h : Wrote B a b) (k : ∀ i, B i → C i) : Wrote C a b :=
  ⟨h.os, h.tape, h.output, h.size, fun i hi => h.block i fun hb => hi (k i hb)⟩
theorem Wrote.setCell {B : Nat → Prop} (w : World) (a : Addr) (u : Value) (h : B a.block) : Wrote B w (w.setCell a u) :=
  ⟨rfl, rfl, rfl, by simp [World.setCell], fun k hk => heap_setCell_other w a k u (fun e => hk (by rw [e]; exact h))⟩
/-- A call that made what it wrote. -/
theorem Wrote.below {B : Nat → Prop} {n : Nat} {a b c : World} (h : Below n a b) (k : Wrote B b c) (hB : ∀ i, B i → n ≤ i) : Below n a c :=
  h.trans ⟨k.os, k.tape, k.output, Nat.le_of_eq k.size.symm, fun i hi => k.block i fun hb => by have := hB i hb; omega⟩

def MarkRes1 (lo hi : Nat) (w : World) (v : Value) (n : Nat) (k : Int) (e : Ending) (w' : World) : Prop :=
  e = .returned (.int .i64 (k + n)) ∧ OwnInts lo hi w' v (iota k n) ∧ Wrote (fun b => v.ownBlock = some b) w w'

theorem OwnInts.form {lo hi : Nat} {w : World} {v : Value} {zs : List Int} (h : OwnInts lo hi w v zs) : (v = .slice none 0 0 ∧ zs = []) ∨ ∃ g cap, v = .slice (some ⟨g, 0, none⟩) zs.length cap := by
  rcases h.1.2 with ⟨rfl, h0⟩ | ⟨g, cap, cur, rfl, _⟩
  · exact .inl ⟨rfl, List.eq_nil_of_length_eq_zero h0⟩
  · exact .inr ⟨g, cap, rfl⟩

theorem OwnInts.blk {w : World} {lo hi b : Nat} {v : Value} {zs : List Int} (h : OwnInts lo hi w v zs) (hb : v.ownBlock = some b) : lo ≤ b ∧ b < hi := ⟨(h.1.lt b hb).1, h.2 b hb⟩

/-! ### held -/

end Go.Proofs.Ytmmapfdmdliifaa
