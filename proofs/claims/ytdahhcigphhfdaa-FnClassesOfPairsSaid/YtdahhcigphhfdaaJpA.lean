/- A pair in a block of its own; what the program's small functions on k, c and numbers answer. -/
import Derived.Test.YtdahhcigphhfdaaJuM
import Derived.Test.YtdahhcigphhfdaaAns5
namespace Go.Proofs.Ytdahhcigphhfdaa
open Go.RowKit

structure JBox (w : World) (b : Nat) (x y : Int) : Prop where
  c0 : w.cell? ⟨b, 0, none⟩ = some (.int .i64 x)
  c1 : w.cell? ⟨b, 1, none⟩ = some (.int .i64 y)
  f0 : w.frozen? ⟨b, 0, none⟩ = false
  f1 : w.frozen? ⟨b, 1, none⟩ = false
theorem JBox.later {w w' : World} {b : Nat} {x y : Int} (h : JBox w b x y) (k : Later w w') : JBox w' b x y := ⟨k.cell h.c0, k.cell h.c1, k.frozen h.c0 h.f0, k.frozen h.c1 h.f1⟩
theorem JBox.keep {w w' : World} {b : Nat} {x y : Int} (h : JBox w b x y) (k : w'.heap[b]? = w.heap[b]?) : JBox w' b x y :=
  ⟨cell_keep h.c0 k, cell_keep h.c1 k, (World.frozen?_of_block k).trans h.f0, (World.frozen?_of_block k).trans h.f1⟩
theorem JBox.lt {w : World} {b : Nat} {x y : Int} (h : JBox w b x y) : b < w.heap.size := World.block_lt_of_cell? w ⟨b, 0, none⟩ h.c0
theorem JBox.new (w : World) (x y : Int) (ty : TypeId) : JBox (w.alloc (.cells #[.int .i64 x, .int .i64 y] ty)) w.heap.size x y :=
  ⟨by simp [go_sem], by simp [go_sem], by simp [go_sem], by simp [go_sem]⟩
theorem JBox.set {w : World} {b : Nat} {x y : Int} (h : JBox w b x y) (p q : Int) : JBox ((w.setCell ⟨b, 0, none⟩ (.int .i64 p)).setCell ⟨b, 1, none⟩ (.int .i64 q)) b p q :=
  ⟨(World.cell?_setCell_other _ _ _ _ (by simp)).trans (World.cell?_setCell_same _ _ _ h.c0), World.cell?_setCell_same _ _ _ ((World.cell?_setCell_other _ _ _ _ (by simp)).trans h.c1),
    by simp only [World.frozen?_setCell]; exact h.f0, by simp only [World.frozen?_setCell]; exact h.f1⟩
theorem setJ_far (w : World) (B b : Nat) (p q : Value) (h : b ≠ B) : ((w.setCell ⟨B, 0, none⟩ p).setCell ⟨B, 1, none⟩ q).heap[b]? = w.heap[b]? := by
  rw [heap_setCell_other _ _ b _ h, heap_setCell_other _ _ b _ h]
theorem setJ_later {w0 w : World} {b : Nat} (h : Later w0 w) (hb : w0.heap.size ≤ b) (p q : Value) : Later w0 ((w.setCell ⟨b, 0, none⟩ p).setCell ⟨b, 1, none⟩ q) := Below.setCell (Below.setCell h hb _) hb _

theorem isK_any (k : Int) (w : World) : Calls Try.prog 85 #[.int .i64 k] w fun e w' => e = .returned (.bool (decide (1 ≤ k ∧ k ≤ 1000))) ∧ w = w' := by
  by_cases h : 1 ≤ k ∧ k ≤ 1000
  · have HA := hid (show decide (1 ≤ k ∧ k ≤ 1000) = true from decide_eq_true h)
    obtain ⟨h1, h2⟩ := h
    go_enter Try.func85, Try.ntmps85
    go_wp2_with fail
    go_ret
    exact ⟨ret_bool (by first | exact HA.out.symm | (rw [HA.out]; done) | (rw [HA.out]; simp; done) | (rw [HA.out]; simp; omega) | (simp; omega)), rfl⟩
  · have HA := hid (show decide (1 ≤ k ∧ k ≤ 1000) = false from decide_eq_false h)
    by_cases h1 : 1 ≤ k
    · have h2 : ¬ k ≤ 1000 := fun h2 => h ⟨h1, h2⟩
      clear h
      go_enter Try.func85, Try.ntmps85
      go_wp2_with fail
      go_ret
      exact ⟨ret_bool (by first | exact HA.out.symm | (rw [HA.out]; done) | (rw [HA.out]; simp; done) | (rw [HA.out]; simp; omega) | (simp; omega)), rfl⟩
    · clear h
      go_enter Try.func85, Try.ntmps85
      go_wp2_with fail
      go_ret
      exact ⟨ret_bool (by first | exact HA.out.symm | (rw [HA.out]; done) | (rw [HA.out]; simp; done) | (rw [HA.out]; simp; omega) | (simp; omega)), rfl⟩
theorem isC_any (k : Int) (w : World) : Calls Try.prog 77 #[.int .i64 k] w fun e w' => e = .returned (.bool (decide (-1000 ≤ k ∧ k ≤ 1000))) ∧ w = w' := by
  by_cases h : -1000 ≤ k ∧ k ≤ 1000
  · have HA := hid (show decide (-1000 ≤ k ∧ k ≤ 1000) = true from decide_eq_true h)
    obtain ⟨h1, h2⟩ := h
    go_enter Try.func77, Try.ntmps77
    go_wp2_with fail
    go_ret
    exact ⟨ret_bool (by first | exact HA.out.symm | (rw [HA.out]; done) | (rw [HA.out]; simp; done) | (rw [HA.out]; simp; omega) | (simp; omega)), rfl⟩
  · have HA := hid (show decide (-1000 ≤ k ∧ k ≤ 1000) = false from decide_eq_false h)
    by_cases h1 : -1000 ≤ k
    · have h2 : ¬ k ≤ 1000 := fun h2 => h ⟨h1, h2⟩
      clear h
      go_enter Try.func77, Try.ntmps77
      go_wp2_with fail
      go_ret
      exact ⟨ret_bool (by first | exact HA.out.symm | (rw [HA.out]; done) | (rw [HA.out]; simp; done) | (rw [HA.out]; simp; omega) | (simp; omega)), rfl⟩
    · clear h
      go_enter Try.func77, Try.ntmps77
      go_wp2_with fail
      go_ret
      exact ⟨ret_bool (by first | exact HA.out.symm | (rw [HA.out]; done) | (rw [HA.out]; simp; done) | (rw [HA.out]; simp; omega) | (simp; omega)), rfl⟩
theorem isLook_any (k : Int) (w : World) : Calls Try.prog 69 #[.int .i64 k] w fun e w' => e = .returned (.bool (decide (0 ≤ k ∧ k ≤ 200))) ∧ w = w' := by
  by_cases h : 0 ≤ k ∧ k ≤ 200
  · have HA := hid (show decide (0 ≤ k ∧ k ≤ 200) = true from decide_eq_true h)
    obtain ⟨h1, h2⟩ := h
    go_enter Try.func69, Try.ntmps69
    go_wp2_with fail
    go_ret
    exact ⟨ret_bool (by first | exact HA.out.symm | (rw [HA.out]; done) | (rw [HA.out]; simp; done) | (rw [HA.out]; simp; omega) | (simp; omega)), rfl⟩
  · have HA := hid (show decide (0 ≤ k ∧ k ≤ 200) = false from decide_eq_false h)
    by_cases h1 : 0 ≤ k
    · have h2 : ¬ k ≤ 200 := fun h2 => h ⟨h1, h2⟩
      clear h
      go_enter Try.func69, Try.ntmps69
      go_wp2_with fail
      go_ret
      exact ⟨ret_bool (by first | exact HA.out.symm | (rw [HA.out]; done) | (rw [HA.out]; simp; done) | (rw [HA.out]; simp; omega) | (simp; omega)), rfl⟩
    · clear h
      go_enter Try.func69, Try.ntmps69
      go_wp2_with fail
      go_ret
      exact ⟨ret_bool (by first | exact HA.out.symm | (rw [HA.out]; done) | (rw [HA.out]; simp; done) | (rw [HA.out]; simp; omega) | (simp; omega)), rfl⟩
theorem areJN_any (x y : Int) (w : World) : Calls Try.prog 84 #[.int .i64 x, .int .i64 y] w fun e w' => e = .returned (.bool (juN x y)) ∧ w = w' := by
  by_cases h : 0 ≤ y ∧ y ≤ x ∧ x ≤ 1000000
  · have HA := hid (juN_iff.2 h)
    obtain ⟨h1, h2, h3⟩ := h
    go_enter Try.func84, Try.ntmps84
    go_wp2_with fail
    go_ret
    exact ⟨ret_bool (by first | exact HA.out.symm | (rw [HA.out]; done) | (rw [HA.out]; simp; done) | (rw [HA.out]; simp; omega) | (simp; omega)), rfl⟩
  · have HA := hid (show juN x y = false from decide_eq_false h)
    by_cases h1 : 0 ≤ y
    · by_cases h2 : y ≤ x
      · have h3 : ¬ x ≤ 1000000 := fun h3 => h ⟨h1, h2, h3⟩
        clear h
        go_enter Try.func84, Try.ntmps84
        go_wp2_with fail
        go_ret
        exact ⟨ret_bool (by first | exact HA.out.symm | (rw [HA.out]; done) | (rw [HA.out]; simp; done) | (rw [HA.out]; simp; omega) | (simp; omega)), rfl⟩
      · clear h
        go_enter Try.func84, Try.ntmps84
        go_wp2_with fail
        go_ret
        exact ⟨ret_bool (by first | exact HA.out.symm | (rw [HA.out]; done) | (rw [HA.out]; simp; done) | (rw [HA.out]; simp; omega) | (simp; omega)), rfl⟩
    · clear h
      go_enter Try.func84, Try.ntmps84
      go_wp2_with fail
      go_ret
      exact ⟨ret_bool (by first | exact HA.out.symm | (rw [HA.out]; done) | (rw [HA.out]; simp; done) | (rw [HA.out]; simp; omega) | (simp; omega)), rfl⟩
theorem areJN_as (x y : Int) (b : Bool) (w : World) (h : juN x y = b) : Calls Try.prog 84 #[.int .i64 x, .int .i64 y] w fun e w' => e = .returned (.bool b) ∧ w = w' := by
  subst h; exact areJN_any x y w
end Go.Proofs.Ytdahhcigphhfdaa
