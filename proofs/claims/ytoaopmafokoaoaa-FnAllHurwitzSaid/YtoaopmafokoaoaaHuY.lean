/- Equations of Hurwitz: ClimbHurwitz, JumpAt (the program). -/
import Derived.Test.YtoaopmafokoaoaaHuX
namespace Go.Proofs.Ytoaopmafokoaoaa
open Go.RowKit

/-- Four cells of block B that may be written. -/
structure Box4 (w : World) (B : Nat) (x y z t : Int) : Prop where
  arr : Arr4 w B x y z t
  frz : Frz4 w B
theorem Box4.later {w w' : World} {B : Nat} {x y z t : Int} (h : Box4 w B x y z t) (k : Later w w') : Box4 w' B x y z t :=
  ⟨h.arr.later k, ⟨k.frozen h.arr.c0 h.frz.f0, k.frozen h.arr.c1 h.frz.f1, k.frozen h.arr.c2 h.frz.f2, k.frozen h.arr.c3 h.frz.f3⟩⟩
theorem Box4.keep {w w' : World} {B : Nat} {x y z t : Int} (h : Box4 w B x y z t) (k : w'.heap[B]? = w.heap[B]?) : Box4 w' B x y z t := ⟨h.arr.keep k, h.frz.keep k⟩
theorem Box4.set {w : World} {B : Nat} {x y z t : Int} (h : Box4 w B x y z t) (p q r s : Int) :
    Box4 ((((w.setCell ⟨B, 0, none⟩ (.int .i64 p)).setCell ⟨B, 1, none⟩ (.int .i64 q)).setCell ⟨B, 2, none⟩ (.int .i64 r)).setCell ⟨B, 3, none⟩ (.int .i64 s)) B p q r s :=
  ⟨h.arr.set p q r s, (((h.frz.set _ _).set _ _).set _ _).set _ _⟩
theorem Box4.new (w : World) (x y z t : Int) : Box4 (w.alloc (.cells #[.int .i64 x, .int .i64 y, .int .i64 z, .int .i64 t] 69)) w.heap.size x y z t :=
  ⟨arr4_alloc w x y z t, ⟨by simp [go_sem], by simp [go_sem], by simp [go_sem], by simp [go_sem]⟩⟩
theorem set4_far (w : World) (B b : Nat) (p q r s : Int) (h : b ≠ B) :
    ((((w.setCell ⟨B, 0, none⟩ (.int .i64 p)).setCell ⟨B, 1, none⟩ (.int .i64 q)).setCell ⟨B, 2, none⟩ (.int .i64 r)).setCell ⟨B, 3, none⟩ (.int .i64 s)).heap[b]? = w.heap[b]? := by
  rw [heap_setCell_other _ _ b _ h, heap_setCell_other _ _ b _ h, heap_setCell_other _ _ b _ h, heap_setCell_other _ _ b _ h]
theorem set4_later {w0 w : World} {B : Nat} (h : Later w0 w) (hB : w0.heap.size ≤ B) (p q r s : Int) :
    Later w0 ((((w.setCell ⟨B, 0, none⟩ (.int .i64 p)).setCell ⟨B, 1, none⟩ (.int .i64 q)).setCell ⟨B, 2, none⟩ (.int .i64 r)).setCell ⟨B, 3, none⟩ (.int .i64 s)) :=
  Below.setCell (Below.setCell (Below.setCell (Below.setCell h hB _) hB _) hB _) hB _

theorem climb_one (zs : List Int) (a b i : Int) : climbAns zs a b [i] = jumpAns zs a b i := by
  have e : wordB [i] zs.length = within 0 ((zs.length : Int) - 1) i := by simp [wordB]
  have e2 : climbL a zs [i] = jumpL a zs i.toNat := by
    unfold climbL
    cases jumpL a zs i.toNat <;> rfl
  unfold climbAns jumpAns
  rw [e, e2]
end Go.Proofs.Ytoaopmafokoaoaa
