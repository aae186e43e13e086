/- Contracts of the moves: otherRoot, slices.Sort at three numbers, moved, greatest, list (the program). -/
import Derived.Test.YtdahhcigphhfdabMkSR
import Derived.Test.YtdahhcigphhfdabLaySort
import Derived.Sort.OwnSortedInts
namespace Go.Proofs.Ytdahhcigphhfdab
open Go.RowKit

def other3 (x y z : Int) : Nat → Int
  | 0 => 3 * y * z - x
  | 1 => 3 * z * x - y
  | _ => 3 * x * y - z
def Cnt0 (x : Int) : Prop := 0 ≤ x ∧ x ≤ 1000000000
theorem mul_le18' {x y : Int} (hx : Cnt0 x) (hy : Cnt0 y) : 0 ≤ 3 * x * y ∧ 3 * x * y ≤ 3000000000000000000 := by
  have h1 : x * y ≤ 1000000000 * y := Int.mul_le_mul_of_nonneg_right hx.2 hy.1
  have h2 : 0 ≤ x * y := Int.mul_nonneg hx.1 hy.1
  have h3 : 3 * x * y = 3 * (x * y) := by grind
  have := hy.2
  omega

set_option maxRecDepth 20000 in
set_option maxHeartbeats 2000000 in
theorem otherRoot_any (x y z : Int) (i : Nat) (hi : i = 0 ∨ i = 1 ∨ i = 2) (w : World) (hx : Cnt0 x) (hy : Cnt0 y) (hz : Cnt0 z) :
    Calls Try.prog 143 #[.agg #[.int .i64 x, .int .i64 y, .int .i64 z], .int .i64 i] w fun e w' => e = .returned (.int .i64 (other3 x y z i)) ∧ Later w w' := by
  obtain ⟨p1, p2⟩ := mul_le18' hx hy
  obtain ⟨p3, p4⟩ := mul_le18' hy hz
  obtain ⟨p5, p6⟩ := mul_le18' hz hx
  obtain ⟨hx1, hx2⟩ := hx
  obtain ⟨hy1, hy2⟩ := hy
  obtain ⟨hz1, hz2⟩ := hz
  have g1 : 3 * y ≤ 3000000000 := by omega
  have c0 : (w.alloc (.cells #[.int .i64 x, .int .i64 y, .int .i64 z] 106)).cell? ⟨w.heap.size, 0, none⟩ = some (.int .i64 x) := by simp [go_sem]
  have c1 : (w.alloc (.cells #[.int .i64 x, .int .i64 y, .int .i64 z] 106)).cell? ⟨w.heap.size, 1, none⟩ = some (.int .i64 y) := by simp [go_sem]
  have c2 : (w.alloc (.cells #[.int .i64 x, .int .i64 y, .int .i64 z] 106)).cell? ⟨w.heap.size, 2, none⟩ = some (.int .i64 z) := by simp [go_sem]
  have HL := hid (Later.alloc w (.cells #[.int .i64 x, .int .i64 y, .int .i64 z] 106))
  have w1 : IntKind.i64.wrap (3 * x) = 3 * x := by rw [IntWalk.i64_left]; exact IntWalk.wrap64_in _ (by omega)
  have w2 : IntKind.i64.wrap (3 * y) = 3 * y := by rw [IntWalk.i64_left]; exact IntWalk.wrap64_in _ (by omega)
  have w3 : IntKind.i64.wrap (3 * z) = 3 * z := by rw [IntWalk.i64_left]; exact IntWalk.wrap64_in _ (by omega)
  have w4 : IntKind.i64.wrap (3 * x * y) = 3 * x * y := by rw [IntWalk.i64_left]; exact IntWalk.wrap64_in _ (by omega)
  have w5 : IntKind.i64.wrap (3 * y * z) = 3 * y * z := by rw [IntWalk.i64_left]; exact IntWalk.wrap64_in _ (by omega)
  have w6 : IntKind.i64.wrap (3 * z * x) = 3 * z * x := by rw [IntWalk.i64_left]; exact IntWalk.wrap64_in _ (by omega)
  have w7 : IntKind.i64.wrap (3 * x * y - z) = 3 * x * y - z := by rw [IntWalk.i64_left]; exact IntWalk.wrap64_in _ (by omega)
  have w8 : IntKind.i64.wrap (3 * y * z - x) = 3 * y * z - x := by rw [IntWalk.i64_left]; exact IntWalk.wrap64_in _ (by omega)
  have w9 : IntKind.i64.wrap (3 * z * x - y) = 3 * z * x - y := by rw [IntWalk.i64_left]; exact IntWalk.wrap64_in _ (by omega)
  rcases hi with rfl | rfl | rfl
  all_goals
    go_enter Try.func143, Try.ntmps143
    go_wp2_with fail
    generalize w.alloc (.cells #[.int .i64 x, .int .i64 y, .int .i64 z] 106) = wb at c0 c1 c2 HL ⊢
    go_quiet (fail)
    go_wp2_with fail
    go_ret
    exact ⟨rfl, HL.out.trans (Later.drewN _ _)⟩

open Go.Sort in
/-- slices.Sort at the three cells of block b. -/
theorem sort3_any (b : Nat) (x y z : Int) (w : World) (c0 : w.cell? ⟨b, 0, none⟩ = some (.int .i64 x)) (c1 : w.cell? ⟨b, 1, none⟩ = some (.int .i64 y)) (c2 : w.cell? ⟨b, 2, none⟩ = some (.int .i64 z))
    (f0 : w.frozen? ⟨b, 0, none⟩ = false) (f1 : w.frozen? ⟨b, 1, none⟩ = false) (f2 : w.frozen? ⟨b, 2, none⟩ = false) :
    Calls Try.prog 144 #[.slice (some ⟨b, 0, none⟩) 3 3] w fun e w' => e = .returned (.tuple #[]) ∧ w.grownBy w' (some b) ∧
      w'.cell? ⟨b, 0, none⟩ = some (.int .i64 (low3 x y z)) ∧ w'.cell? ⟨b, 1, none⟩ = some (.int .i64 (mid3 x y z)) ∧ w'.cell? ⟨b, 2, none⟩ = some (.int .i64 (high3 x y z)) := by
  have hb : b < w.heap.size := World.block_lt_of_cell? w ⟨b, 0, none⟩ c0
  have hH : Holds (Value.int .i64) w b 0 [x, y, z].toArray := by
    intro j hj
    match j, hj with
    | 0, _ => exact ⟨by simpa using c0, by simpa using f0⟩
    | 1, _ => exact ⟨by simpa using c1, by simpa using f1⟩
    | 2, _ => exact ⟨by simpa using c2, by simpa using f2⟩
  refine (Any.slices_Sort_int laysLays189 b 0 3 [x, y, z] w hH hb (by simp)).mono ?_
  rintro e w' ⟨rfl, n, os, rfl⟩
  rw [merge3]
  have hc := fun j hj => cell?_putRow (Value.int .i64) (Sort.ahead w n) b 0 [x, y, z].toArray (ordL x y z).toArray (fun j hj => ⟨(hH j hj).1, (hH j hj).2⟩) (by simp [ordL]) j hj
  have hg : ∀ a : Addr, a.block = b → (grow (putRow (Value.int .i64) (Sort.ahead w n) b 0 (ordL x y z).toArray) os).cell? a = (putRow (Value.int .i64) (Sort.ahead w n) b 0 (ordL x y z).toArray).cell? a := fun a ha => cell?_grow _ _ _ (by rw [ha]; simpa using hb)
  refine ⟨rfl, grownBy_sortedI _, ?_, ?_, ?_⟩
  · rw [hg _ rfl]; simpa [ordL] using hc 0 (by simp [ordL])
  · rw [hg _ rfl]; simpa [ordL] using hc 1 (by simp [ordL])
  · rw [hg _ rfl]; simpa [ordL] using hc 2 (by simp [ordL])

/-- one result, a variable of its own -/
theorem results_cell1 {fn : Func} {p : Tmp} {ty : TypeId} (h : fn.results = #[.cell p ty]) (tmps : Array Value) (P : Program) (w : World) :
    (results fn tmps).run P w = ((asAddr (tmps.getD p undef)).run P w).andThen fun a w₁ => (loadVar ty a).run P w₁ := by
  simp only [results, h]
  simp [Sem.run_bind, Result.andThen]
def moveL (x y z : Int) : Nat → List Int
  | 0 => ordL (3 * y * z - x) y z
  | 1 => ordL x (3 * z * x - y) z
  | _ => ordL x y (3 * x * y - z)
def Tri (w : World) (l : List Int) (e : Ending) (w' : World) : Prop := ∃ p q r, l = [p, q, r] ∧ e = .returned (.agg #[.int .i64 p, .int .i64 q, .int .i64 r]) ∧ Later w w'

set_option maxRecDepth 20000 in
set_option maxHeartbeats 4000000 in
theorem moved_any (x y z : Int) (i : Nat) (hi : i = 0 ∨ i = 1 ∨ i = 2) (w : World) (hx : Cnt0 x) (hy : Cnt0 y) (hz : Cnt0 z) :
    Calls Try.prog 105 #[.agg #[.int .i64 x, .int .i64 y, .int .i64 z], .int .i64 i] w fun e w' => Tri w (moveL x y z i) e w' := by
  have c0 : ((w.alloc (.cells #[.int .i64 x, .int .i64 y, .int .i64 z] 106)).alloc (.cells #[.int .i64 0, .int .i64 0, .int .i64 0] 106)).cell? ⟨w.heap.size, 0, none⟩ = some (.int .i64 x) := by simp [go_sem]
  have c1 : ((w.alloc (.cells #[.int .i64 x, .int .i64 y, .int .i64 z] 106)).alloc (.cells #[.int .i64 0, .int .i64 0, .int .i64 0] 106)).cell? ⟨w.heap.size, 1, none⟩ = some (.int .i64 y) := by simp [go_sem]
  have c2 : ((w.alloc (.cells #[.int .i64 x, .int .i64 y, .int .i64 z] 106)).alloc (.cells #[.int .i64 0, .int .i64 0, .int .i64 0] 106)).cell? ⟨w.heap.size, 2, none⟩ = some (.int .i64 z) := by simp [go_sem]
  have f0 : ((w.alloc (.cells #[.int .i64 x, .int .i64 y, .int .i64 z] 106)).alloc (.cells #[.int .i64 0, .int .i64 0, .int .i64 0] 106)).frozen? ⟨w.heap.size, 0, none⟩ = false := by simp [go_sem]
  have f1 : ((w.alloc (.cells #[.int .i64 x, .int .i64 y, .int .i64 z] 106)).alloc (.cells #[.int .i64 0, .int .i64 0, .int .i64 0] 106)).frozen? ⟨w.heap.size, 1, none⟩ = false := by simp [go_sem]
  have f2 : ((w.alloc (.cells #[.int .i64 x, .int .i64 y, .int .i64 z] 106)).alloc (.cells #[.int .i64 0, .int .i64 0, .int .i64 0] 106)).frozen? ⟨w.heap.size, 2, none⟩ = false := by simp [go_sem]
  have r0 : ((w.alloc (.cells #[.int .i64 x, .int .i64 y, .int .i64 z] 106)).alloc (.cells #[.int .i64 0, .int .i64 0, .int .i64 0] 106)).cell? ⟨w.heap.size + 1, 0, none⟩ = some (.int .i64 0) := by simp [go_sem]
  have r1 : ((w.alloc (.cells #[.int .i64 x, .int .i64 y, .int .i64 z] 106)).alloc (.cells #[.int .i64 0, .int .i64 0, .int .i64 0] 106)).cell? ⟨w.heap.size + 1, 1, none⟩ = some (.int .i64 0) := by simp [go_sem]
  have r2 : ((w.alloc (.cells #[.int .i64 x, .int .i64 y, .int .i64 z] 106)).alloc (.cells #[.int .i64 0, .int .i64 0, .int .i64 0] 106)).cell? ⟨w.heap.size + 1, 2, none⟩ = some (.int .i64 0) := by simp [go_sem]
  have g0 : ((w.alloc (.cells #[.int .i64 x, .int .i64 y, .int .i64 z] 106)).alloc (.cells #[.int .i64 0, .int .i64 0, .int .i64 0] 106)).frozen? ⟨w.heap.size + 1, 0, none⟩ = false := by simp [go_sem]
  have g1 : ((w.alloc (.cells #[.int .i64 x, .int .i64 y, .int .i64 z] 106)).alloc (.cells #[.int .i64 0, .int .i64 0, .int .i64 0] 106)).frozen? ⟨w.heap.size + 1, 1, none⟩ = false := by simp [go_sem]
  have g2 : ((w.alloc (.cells #[.int .i64 x, .int .i64 y, .int .i64 z] 106)).alloc (.cells #[.int .i64 0, .int .i64 0, .int .i64 0] 106)).frozen? ⟨w.heap.size + 1, 2, none⟩ = false := by simp [go_sem]
  have HL := hid ((Later.alloc w (.cells #[.int .i64 x, .int .i64 y, .int .i64 z] 106)).trans (Later.alloc _ (.cells #[.int .i64 0, .int .i64 0, .int .i64 0] 106)))
  have hs : w.heap.size + 1 < ((w.alloc (.cells #[.int .i64 x, .int .i64 y, .int .i64 z] 106)).alloc (.cells #[.int .i64 0, .int .i64 0, .int .i64 0] 106)).heap.size := by simp
  rcases hi with rfl | rfl | rfl
  · go_enter Try.func105, Try.ntmps105
    go_wp2_with fail
    generalize (w.alloc (.cells #[.int .i64 x, .int .i64 y, .int .i64 z] 106)).alloc (.cells #[.int .i64 0, .int .i64 0, .int .i64 0] 106) = w2 at c0 c1 c2 f0 f1 f2 r0 r1 r2 g0 g1 g2 HL hs ⊢
    refine (otherRoot_any x y z _ (by first | exact .inl rfl | exact .inr (.inl rfl) | exact .inr (.inr rfl)) _ hx hy hz).mono ?_
    rintro e w3 ⟨rfl, hL⟩
    replace f0 := hL.frozen c0 f0
    replace f1 := hL.frozen c1 f1
    replace f2 := hL.frozen c2 f2
    replace c0 := hL.cell c0
    replace c1 := hL.cell c1
    replace c2 := hL.cell c2
    replace g0 := hL.frozen r0 g0
    replace g1 := hL.frozen r1 g1
    replace g2 := hL.frozen r2 g2
    replace r0 := hL.cell r0
    replace r1 := hL.cell r1
    replace r2 := hL.cell r2
    have HL3 := hid (HL.out.trans hL)
    have hs3 : w.heap.size + 1 < w3.heap.size := by have := hL.size; omega
    clear hL HL hs
    go_wp2_with fail
    generalize hv : Value.int .i64 (other3 x y z _) = nv
    generalize hset : w3.setCell _ nv = w4
    have HL4 := hid (show Later w w4 by rw [← hset]; exact HL3.out.setCell (Nat.le_refl _) _)
    have hs4 : w.heap.size + 1 < w4.heap.size := by rw [← hset]; simpa [World.setCell] using hs3
    replace f0 : w4.frozen? ⟨w.heap.size, 0, none⟩ = false := by rw [← hset, World.frozen?_setCell]; exact f0
    replace f1 : w4.frozen? ⟨w.heap.size, 1, none⟩ = false := by rw [← hset, World.frozen?_setCell]; exact f1
    replace f2 : w4.frozen? ⟨w.heap.size, 2, none⟩ = false := by rw [← hset, World.frozen?_setCell]; exact f2
    replace g0 : w4.frozen? ⟨w.heap.size + 1, 0, none⟩ = false := by rw [← hset, World.frozen?_setCell]; exact g0
    replace g1 : w4.frozen? ⟨w.heap.size + 1, 1, none⟩ = false := by rw [← hset, World.frozen?_setCell]; exact g1
    replace g2 : w4.frozen? ⟨w.heap.size + 1, 2, none⟩ = false := by rw [← hset, World.frozen?_setCell]; exact g2
    replace r0 : w4.cell? ⟨w.heap.size + 1, 0, none⟩ = some (.int .i64 0) := by rw [← hset]; exact (World.cell?_setCell_other _ _ _ _ (by simp)).trans r0
    replace r1 : w4.cell? ⟨w.heap.size + 1, 1, none⟩ = some (.int .i64 0) := by rw [← hset]; exact (World.cell?_setCell_other _ _ _ _ (by simp)).trans r1
    replace r2 : w4.cell? ⟨w.heap.size + 1, 2, none⟩ = some (.int .i64 0) := by rw [← hset]; exact (World.cell?_setCell_other _ _ _ _ (by simp)).trans r2
    replace c0 : w4.cell? ⟨w.heap.size, 0, none⟩ = some (.int .i64 (3 * y * z - x)) := by rw [← hset, ← hv]; exact World.cell?_setCell_same _ _ _ c0
    replace c1 : w4.cell? ⟨w.heap.size, 1, none⟩ = some (.int .i64 (y)) := by rw [← hset]; exact (World.cell?_setCell_other _ _ _ _ (by simp)).trans c1
    replace c2 : w4.cell? ⟨w.heap.size, 2, none⟩ = some (.int .i64 (z)) := by rw [← hset]; exact (World.cell?_setCell_other _ _ _ _ (by simp)).trans c2
    clear hset hv
    refine (sort3_any w.heap.size _ _ _ w4 c0 c1 c2 f0 f1 f2).mono ?_
    rintro e w5 ⟨rfl, hg, s0, s1, s2⟩
    have hb5 : w5.heap[w.heap.size + 1]? = w4.heap[w.heap.size + 1]? := hg.block _ (by omega) (by simp)
    replace r0 := cell_keep r0 hb5
    replace r1 := cell_keep r1 hb5
    replace r2 := cell_keep r2 hb5
    replace g0 : w5.frozen? ⟨w.heap.size + 1, 0, none⟩ = false := (World.frozen?_of_block hb5).trans g0
    replace g1 : w5.frozen? ⟨w.heap.size + 1, 1, none⟩ = false := (World.frozen?_of_block hb5).trans g1
    replace g2 : w5.frozen? ⟨w.heap.size + 1, 2, none⟩ = false := (World.frozen?_of_block hb5).trans g2
    have HL5 := hid (show Later w w5 from Below.grown HL4.out hg (by have := HL4.out.size; omega) (fun j hj => by simp at hj; omega))
    clear hg hb5 f0 f1 f2 c0 c1 c2 hs3 hs4
    go_wp2_with fail
    have t0 : (((w5.setCell ⟨w.heap.size + 1, 0, none⟩ (.int .i64 (low3 (3 * y * z - x) (y) (z)))).setCell ⟨w.heap.size + 1, 1, none⟩ (.int .i64 (mid3 (3 * y * z - x) (y) (z)))).setCell ⟨w.heap.size + 1, 2, none⟩ (.int .i64 (high3 (3 * y * z - x) (y) (z)))).cell? ⟨w.heap.size + 1, 0, none⟩ = some (.int .i64 (low3 (3 * y * z - x) (y) (z))) := (World.cell?_setCell_other _ _ _ _ (by simp)).trans ((World.cell?_setCell_other _ _ _ _ (by simp)).trans (World.cell?_setCell_same _ _ _ r0))
    have t1 : (((w5.setCell ⟨w.heap.size + 1, 0, none⟩ (.int .i64 (low3 (3 * y * z - x) (y) (z)))).setCell ⟨w.heap.size + 1, 1, none⟩ (.int .i64 (mid3 (3 * y * z - x) (y) (z)))).setCell ⟨w.heap.size + 1, 2, none⟩ (.int .i64 (high3 (3 * y * z - x) (y) (z)))).cell? ⟨w.heap.size + 1, 1, none⟩ = some (.int .i64 (mid3 (3 * y * z - x) (y) (z))) := (World.cell?_setCell_other _ _ _ _ (by simp)).trans (World.cell?_setCell_same _ _ _ ((World.cell?_setCell_other _ _ _ _ (by simp)).trans r1))
    have t2 : (((w5.setCell ⟨w.heap.size + 1, 0, none⟩ (.int .i64 (low3 (3 * y * z - x) (y) (z)))).setCell ⟨w.heap.size + 1, 1, none⟩ (.int .i64 (mid3 (3 * y * z - x) (y) (z)))).setCell ⟨w.heap.size + 1, 2, none⟩ (.int .i64 (high3 (3 * y * z - x) (y) (z)))).cell? ⟨w.heap.size + 1, 2, none⟩ = some (.int .i64 (high3 (3 * y * z - x) (y) (z))) := World.cell?_setCell_same _ _ _ ((World.cell?_setCell_other _ _ _ _ (by simp)).trans ((World.cell?_setCell_other _ _ _ _ (by simp)).trans r2))
    have HL8 := hid (show Later w (((w5.setCell ⟨w.heap.size + 1, 0, none⟩ (.int .i64 (low3 (3 * y * z - x) (y) (z)))).setCell ⟨w.heap.size + 1, 1, none⟩ (.int .i64 (mid3 (3 * y * z - x) (y) (z)))).setCell ⟨w.heap.size + 1, 2, none⟩ (.int .i64 (high3 (3 * y * z - x) (y) (z)))) from Below.setCell (Below.setCell (Below.setCell HL5.out (by simp) _) (by simp) _) (by simp) _)
    generalize ((w5.setCell ⟨w.heap.size + 1, 0, none⟩ (.int .i64 (low3 (3 * y * z - x) (y) (z)))).setCell ⟨w.heap.size + 1, 1, none⟩ (.int .i64 (mid3 (3 * y * z - x) (y) (z)))).setCell ⟨w.heap.size + 1, 2, none⟩ (.int .i64 (high3 (3 * y * z - x) (y) (z))) = w8 at t0 t1 t2 HL8 ⊢
    clear r0 r1 r2 g0 g1 g2 s0 s1 s2
    try simp only [Exit.inBlock, Exit.then]
    refine bodyPost_ret (v := .agg #[.int .i64 (low3 (3 * y * z - x) (y) (z)), .int .i64 (mid3 (3 * y * z - x) (y) (z)), .int .i64 (high3 (3 * y * z - x) (y) (z))]) ?_ rfl ⟨_, _, _, rfl, rfl, HL8.out⟩
    rw [results_cell1 rfl]
    go_simp
  · go_enter Try.func105, Try.ntmps105
    go_wp2_with fail
    generalize (w.alloc (.cells #[.int .i64 x, .int .i64 y, .int .i64 z] 106)).alloc (.cells #[.int .i64 0, .int .i64 0, .int .i64 0] 106) = w2 at c0 c1 c2 f0 f1 f2 r0 r1 r2 g0 g1 g2 HL hs ⊢
    refine (otherRoot_any x y z _ (by first | exact .inl rfl | exact .inr (.inl rfl) | exact .inr (.inr rfl)) _ hx hy hz).mono ?_
    rintro e w3 ⟨rfl, hL⟩
    replace f0 := hL.frozen c0 f0
    replace f1 := hL.frozen c1 f1
    replace f2 := hL.frozen c2 f2
    replace c0 := hL.cell c0
    replace c1 := hL.cell c1
    replace c2 := hL.cell c2
    replace g0 := hL.frozen r0 g0
    replace g1 := hL.frozen r1 g1
    replace g2 := hL.frozen r2 g2
    replace r0 := hL.cell r0
    replace r1 := hL.cell r1
    replace r2 := hL.cell r2
    have HL3 := hid (HL.out.trans hL)
    have hs3 : w.heap.size + 1 < w3.heap.size := by have := hL.size; omega
    clear hL HL hs
    go_wp2_with fail
    generalize hv : Value.int .i64 (other3 x y z _) = nv
    generalize hset : w3.setCell _ nv = w4
    have HL4 := hid (show Later w w4 by rw [← hset]; exact HL3.out.setCell (Nat.le_refl _) _)
    have hs4 : w.heap.size + 1 < w4.heap.size := by rw [← hset]; simpa [World.setCell] using hs3
    replace f0 : w4.frozen? ⟨w.heap.size, 0, none⟩ = false := by rw [← hset, World.frozen?_setCell]; exact f0
    replace f1 : w4.frozen? ⟨w.heap.size, 1, none⟩ = false := by rw [← hset, World.frozen?_setCell]; exact f1
    replace f2 : w4.frozen? ⟨w.heap.size, 2, none⟩ = false := by rw [← hset, World.frozen?_setCell]; exact f2
    replace g0 : w4.frozen? ⟨w.heap.size + 1, 0, none⟩ = false := by rw [← hset, World.frozen?_setCell]; exact g0
    replace g1 : w4.frozen? ⟨w.heap.size + 1, 1, none⟩ = false := by rw [← hset, World.frozen?_setCell]; exact g1
    replace g2 : w4.frozen? ⟨w.heap.size + 1, 2, none⟩ = false := by rw [← hset, World.frozen?_setCell]; exact g2
    replace r0 : w4.cell? ⟨w.heap.size + 1, 0, none⟩ = some (.int .i64 0) := by rw [← hset]; exact (World.cell?_setCell_other _ _ _ _ (by simp)).trans r0
    replace r1 : w4.cell? ⟨w.heap.size + 1, 1, none⟩ = some (.int .i64 0) := by rw [← hset]; exact (World.cell?_setCell_other _ _ _ _ (by simp)).trans r1
    replace r2 : w4.cell? ⟨w.heap.size + 1, 2, none⟩ = some (.int .i64 0) := by rw [← hset]; exact (World.cell?_setCell_other _ _ _ _ (by simp)).trans r2
    replace c0 : w4.cell? ⟨w.heap.size, 0, none⟩ = some (.int .i64 (x)) := by rw [← hset]; exact (World.cell?_setCell_other _ _ _ _ (by simp)).trans c0
    replace c1 : w4.cell? ⟨w.heap.size, 1, none⟩ = some (.int .i64 (3 * z * x - y)) := by rw [← hset, ← hv]; exact World.cell?_setCell_same _ _ _ c1
    replace c2 : w4.cell? ⟨w.heap.size, 2, none⟩ = some (.int .i64 (z)) := by rw [← hset]; exact (World.cell?_setCell_other _ _ _ _ (by simp)).trans c2
    clear hset hv
    refine (sort3_any w.heap.size _ _ _ w4 c0 c1 c2 f0 f1 f2).mono ?_
    rintro e w5 ⟨rfl, hg, s0, s1, s2⟩
    have hb5 : w5.heap[w.heap.size + 1]? = w4.heap[w.heap.size + 1]? := hg.block _ (by omega) (by simp)
    replace r0 := cell_keep r0 hb5
    replace r1 := cell_keep r1 hb5
    replace r2 := cell_keep r2 hb5
    replace g0 : w5.frozen? ⟨w.heap.size + 1, 0, none⟩ = false := (World.frozen?_of_block hb5).trans g0
    replace g1 : w5.frozen? ⟨w.heap.size + 1, 1, none⟩ = false := (World.frozen?_of_block hb5).trans g1
    replace g2 : w5.frozen? ⟨w.heap.size + 1, 2, none⟩ = false := (World.frozen?_of_block hb5).trans g2
    have HL5 := hid (show Later w w5 from Below.grown HL4.out hg (by have := HL4.out.size; omega) (fun j hj => by simp at hj; omega))
    clear hg hb5 f0 f1 f2 c0 c1 c2 hs3 hs4
    go_wp2_with fail
    have t0 : (((w5.setCell ⟨w.heap.size + 1, 0, none⟩ (.int .i64 (low3 (x) (3 * z * x - y) (z)))).setCell ⟨w.heap.size + 1, 1, none⟩ (.int .i64 (mid3 (x) (3 * z * x - y) (z)))).setCell ⟨w.heap.size + 1, 2, none⟩ (.int .i64 (high3 (x) (3 * z * x - y) (z)))).cell? ⟨w.heap.size + 1, 0, none⟩ = some (.int .i64 (low3 (x) (3 * z * x - y) (z))) := (World.cell?_setCell_other _ _ _ _ (by simp)).trans ((World.cell?_setCell_other _ _ _ _ (by simp)).trans (World.cell?_setCell_same _ _ _ r0))
    have t1 : (((w5.setCell ⟨w.heap.size + 1, 0, none⟩ (.int .i64 (low3 (x) (3 * z * x - y) (z)))).setCell ⟨w.heap.size + 1, 1, none⟩ (.int .i64 (mid3 (x) (3 * z * x - y) (z)))).setCell ⟨w.heap.size + 1, 2, none⟩ (.int .i64 (high3 (x) (3 * z * x - y) (z)))).cell? ⟨w.heap.size + 1, 1, none⟩ = some (.int .i64 (mid3 (x) (3 * z * x - y) (z))) := (World.cell?_setCell_other _ _ _ _ (by simp)).trans (World.cell?_setCell_same _ _ _ ((World.cell?_setCell_other _ _ _ _ (by simp)).trans r1))
    have t2 : (((w5.setCell ⟨w.heap.size + 1, 0, none⟩ (.int .i64 (low3 (x) (3 * z * x - y) (z)))).setCell ⟨w.heap.size + 1, 1, none⟩ (.int .i64 (mid3 (x) (3 * z * x - y) (z)))).setCell ⟨w.heap.size + 1, 2, none⟩ (.int .i64 (high3 (x) (3 * z * x - y) (z)))).cell? ⟨w.heap.size + 1, 2, none⟩ = some (.int .i64 (high3 (x) (3 * z * x - y) (z))) := World.cell?_setCell_same _ _ _ ((World.cell?_setCell_other _ _ _ _ (by simp)).trans ((World.cell?_setCell_other _ _ _ _ (by simp)).trans r2))
    have HL8 := hid (show Later w (((w5.setCell ⟨w.heap.size + 1, 0, none⟩ (.int .i64 (low3 (x) (3 * z * x - y) (z)))).setCell ⟨w.heap.size + 1, 1, none⟩ (.int .i64 (mid3 (x) (3 * z * x - y) (z)))).setCell ⟨w.heap.size + 1, 2, none⟩ (.int .i64 (high3 (x) (3 * z * x - y) (z)))) from Below.setCell (Below.setCell (Below.setCell HL5.out (by simp) _) (by simp) _) (by simp) _)
    generalize ((w5.setCell ⟨w.heap.size + 1, 0, none⟩ (.int .i64 (low3 (x) (3 * z * x - y) (z)))).setCell ⟨w.heap.size + 1, 1, none⟩ (.int .i64 (mid3 (x) (3 * z * x - y) (z)))).setCell ⟨w.heap.size + 1, 2, none⟩ (.int .i64 (high3 (x) (3 * z * x - y) (z))) = w8 at t0 t1 t2 HL8 ⊢
    clear r0 r1 r2 g0 g1 g2 s0 s1 s2
    try simp only [Exit.inBlock, Exit.then]
    refine bodyPost_ret (v := .agg #[.int .i64 (low3 (x) (3 * z * x - y) (z)), .int .i64 (mid3 (x) (3 * z * x - y) (z)), .int .i64 (high3 (x) (3 * z * x - y) (z))]) ?_ rfl ⟨_, _, _, rfl, rfl, HL8.out⟩
    rw [results_cell1 rfl]
    go_simp
  · go_enter Try.func105, Try.ntmps105
    go_wp2_with fail
    generalize (w.alloc (.cells #[.int .i64 x, .int .i64 y, .int .i64 z] 106)).alloc (.cells #[.int .i64 0, .int .i64 0, .int .i64 0] 106) = w2 at c0 c1 c2 f0 f1 f2 r0 r1 r2 g0 g1 g2 HL hs ⊢
    refine (otherRoot_any x y z _ (by first | exact .inl rfl | exact .inr (.inl rfl) | exact .inr (.inr rfl)) _ hx hy hz).mono ?_
    rintro e w3 ⟨rfl, hL⟩
    replace f0 := hL.frozen c0 f0
    replace f1 := hL.frozen c1 f1
    replace f2 := hL.frozen c2 f2
    replace c0 := hL.cell c0
    replace c1 := hL.cell c1
    replace c2 := hL.cell c2
    replace g0 := hL.frozen r0 g0
    replace g1 := hL.frozen r1 g1
    replace g2 := hL.frozen r2 g2
    replace r0 := hL.cell r0
    replace r1 := hL.cell r1
    replace r2 := hL.cell r2
    have HL3 := hid (HL.out.trans hL)
    have hs3 : w.heap.size + 1 < w3.heap.size := by have := hL.size; omega
    clear hL HL hs
    go_wp2_with fail
    generalize hv : Value.int .i64 (other3 x y z _) = nv
    generalize hset : w3.setCell _ nv = w4
    have HL4 := hid (show Later w w4 by rw [← hset]; exact HL3.out.setCell (Nat.le_refl _) _)
    have hs4 : w.heap.size + 1 < w4.heap.size := by rw [← hset]; simpa [World.setCell] using hs3
    replace f0 : w4.frozen? ⟨w.heap.size, 0, none⟩ = false := by rw [← hset, World.frozen?_setCell]; exact f0
    replace f1 : w4.frozen? ⟨w.heap.size, 1, none⟩ = false := by rw [← hset, World.frozen?_setCell]; exact f1
    replace f2 : w4.frozen? ⟨w.heap.size, 2, none⟩ = false := by rw [← hset, World.frozen?_setCell]; exact f2
    replace g0 : w4.frozen? ⟨w.heap.size + 1, 0, none⟩ = false := by rw [← hset, World.frozen?_setCell]; exact g0
    replace g1 : w4.frozen? ⟨w.heap.size + 1, 1, none⟩ = false := by rw [← hset, World.frozen?_setCell]; exact g1
    replace g2 : w4.frozen? ⟨w.heap.size + 1, 2, none⟩ = false := by rw [← hset, World.frozen?_setCell]; exact g2
    replace r0 : w4.cell? ⟨w.heap.size + 1, 0, none⟩ = some (.int .i64 0) := by rw [← hset]; exact (World.cell?_setCell_other _ _ _ _ (by simp)).trans r0
    replace r1 : w4.cell? ⟨w.heap.size + 1, 1, none⟩ = some (.int .i64 0) := by rw [← hset]; exact (World.cell?_setCell_other _ _ _ _ (by simp)).trans r1
    replace r2 : w4.cell? ⟨w.heap.size + 1, 2, none⟩ = some (.int .i64 0) := by rw [← hset]; exact (World.cell?_setCell_other _ _ _ _ (by simp)).trans r2
    replace c0 : w4.cell? ⟨w.heap.size, 0, none⟩ = some (.int .i64 (x)) := by rw [← hset]; exact (World.cell?_setCell_other _ _ _ _ (by simp)).trans c0
    replace c1 : w4.cell? ⟨w.heap.size, 1, none⟩ = some (.int .i64 (y)) := by rw [← hset]; exact (World.cell?_setCell_other _ _ _ _ (by simp)).trans c1
    replace c2 : w4.cell? ⟨w.heap.size, 2, none⟩ = some (.int .i64 (3 * x * y - z)) := by rw [← hset, ← hv]; exact World.cell?_setCell_same _ _ _ c2
    clear hset hv
    refine (sort3_any w.heap.size _ _ _ w4 c0 c1 c2 f0 f1 f2).mono ?_
    rintro e w5 ⟨rfl, hg, s0, s1, s2⟩
    have hb5 : w5.heap[w.heap.size + 1]? = w4.heap[w.heap.size + 1]? := hg.block _ (by omega) (by simp)
    replace r0 := cell_keep r0 hb5
    replace r1 := cell_keep r1 hb5
    replace r2 := cell_keep r2 hb5
    replace g0 : w5.frozen? ⟨w.heap.size + 1, 0, none⟩ = false := (World.frozen?_of_block hb5).trans g0
    replace g1 : w5.frozen? ⟨w.heap.size + 1, 1, none⟩ = false := (World.frozen?_of_block hb5).trans g1
    replace g2 : w5.frozen? ⟨w.heap.size + 1, 2, none⟩ = false := (World.frozen?_of_block hb5).trans g2
    have HL5 := hid (show Later w w5 from Below.grown HL4.out hg (by have := HL4.out.size; omega) (fun j hj => by simp at hj; omega))
    clear hg hb5 f0 f1 f2 c0 c1 c2 hs3 hs4
    go_wp2_with fail
    have t0 : (((w5.setCell ⟨w.heap.size + 1, 0, none⟩ (.int .i64 (low3 (x) (y) (3 * x * y - z)))).setCell ⟨w.heap.size + 1, 1, none⟩ (.int .i64 (mid3 (x) (y) (3 * x * y - z)))).setCell ⟨w.heap.size + 1, 2, none⟩ (.int .i64 (high3 (x) (y) (3 * x * y - z)))).cell? ⟨w.heap.size + 1, 0, none⟩ = some (.int .i64 (low3 (x) (y) (3 * x * y - z))) := (World.cell?_setCell_other _ _ _ _ (by simp)).trans ((World.cell?_setCell_other _ _ _ _ (by simp)).trans (World.cell?_setCell_same _ _ _ r0))
    have t1 : (((w5.setCell ⟨w.heap.size + 1, 0, none⟩ (.int .i64 (low3 (x) (y) (3 * x * y - z)))).setCell ⟨w.heap.size + 1, 1, none⟩ (.int .i64 (mid3 (x) (y) (3 * x * y - z)))).setCell ⟨w.heap.size + 1, 2, none⟩ (.int .i64 (high3 (x) (y) (3 * x * y - z)))).cell? ⟨w.heap.size + 1, 1, none⟩ = some (.int .i64 (mid3 (x) (y) (3 * x * y - z))) := (World.cell?_setCell_other _ _ _ _ (by simp)).trans (World.cell?_setCell_same _ _ _ ((World.cell?_setCell_other _ _ _ _ (by simp)).trans r1))
    have t2 : (((w5.setCell ⟨w.heap.size + 1, 0, none⟩ (.int .i64 (low3 (x) (y) (3 * x * y - z)))).setCell ⟨w.heap.size + 1, 1, none⟩ (.int .i64 (mid3 (x) (y) (3 * x * y - z)))).setCell ⟨w.heap.size + 1, 2, none⟩ (.int .i64 (high3 (x) (y) (3 * x * y - z)))).cell? ⟨w.heap.size + 1, 2, none⟩ = some (.int .i64 (high3 (x) (y) (3 * x * y - z))) := World.cell?_setCell_same _ _ _ ((World.cell?_setCell_other _ _ _ _ (by simp)).trans ((World.cell?_setCell_other _ _ _ _ (by simp)).trans r2))
    have HL8 := hid (show Later w (((w5.setCell ⟨w.heap.size + 1, 0, none⟩ (.int .i64 (low3 (x) (y) (3 * x * y - z)))).setCell ⟨w.heap.size + 1, 1, none⟩ (.int .i64 (mid3 (x) (y) (3 * x * y - z)))).setCell ⟨w.heap.size + 1, 2, none⟩ (.int .i64 (high3 (x) (y) (3 * x * y - z)))) from Below.setCell (Below.setCell (Below.setCell HL5.out (by simp) _) (by simp) _) (by simp) _)
    generalize ((w5.setCell ⟨w.heap.size + 1, 0, none⟩ (.int .i64 (low3 (x) (y) (3 * x * y - z)))).setCell ⟨w.heap.size + 1, 1, none⟩ (.int .i64 (mid3 (x) (y) (3 * x * y - z)))).setCell ⟨w.heap.size + 1, 2, none⟩ (.int .i64 (high3 (x) (y) (3 * x * y - z))) = w8 at t0 t1 t2 HL8 ⊢
    clear r0 r1 r2 g0 g1 g2 s0 s1 s2
    try simp only [Exit.inBlock, Exit.then]
    refine bodyPost_ret (v := .agg #[.int .i64 (low3 (x) (y) (3 * x * y - z)), .int .i64 (mid3 (x) (y) (3 * x * y - z)), .int .i64 (high3 (x) (y) (3 * x * y - z))]) ?_ rfl ⟨_, _, _, rfl, rfl, HL8.out⟩
    rw [results_cell1 rfl]
    go_simp
end Go.Proofs.Ytdahhcigphhfdab
