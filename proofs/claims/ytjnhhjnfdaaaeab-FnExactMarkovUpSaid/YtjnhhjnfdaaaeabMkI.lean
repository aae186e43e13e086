/- The move modulo a prime number, in the program. -/
import Derived.Test.YtjnhhjnfdaaaeabMkH
namespace Go.Proofs.Ytjnhhjnfdaaaeab
open Go.RowKit

def modL (p x y z : Int) : Nat → List Int
  | 0 => [remT (3 * y * z - x) p, y, z]
  | 1 => [x, remT (3 * z * x - y) p, z]
  | _ => [x, y, remT (3 * x * y - z) p]

set_option maxRecDepth 20000 in
set_option maxHeartbeats 4000000 in
theorem movedModulo_any (x y z p : Int) (i : Nat) (hi : i = 0 ∨ i = 1 ∨ i = 2) (w : World) (hx : Cnt0 x) (hy : Cnt0 y) (hz : Cnt0 z) (hp : 1 ≤ p ∧ p ≤ 1000000000) :
    Calls Try.prog 72 #[.agg #[.int .i64 x, .int .i64 y, .int .i64 z], .int .i64 p, .int .i64 i] w fun e w' => Tri w (modL p x y z i) e w' := by
  have c0 : ((w.alloc (.cells #[.int .i64 x, .int .i64 y, .int .i64 z] 59)).alloc (.cells #[.int .i64 0, .int .i64 0, .int .i64 0] 59)).cell? ⟨w.heap.size, 0, none⟩ = some (.int .i64 x) := by simp [go_sem]
  have c1 : ((w.alloc (.cells #[.int .i64 x, .int .i64 y, .int .i64 z] 59)).alloc (.cells #[.int .i64 0, .int .i64 0, .int .i64 0] 59)).cell? ⟨w.heap.size, 1, none⟩ = some (.int .i64 y) := by simp [go_sem]
  have c2 : ((w.alloc (.cells #[.int .i64 x, .int .i64 y, .int .i64 z] 59)).alloc (.cells #[.int .i64 0, .int .i64 0, .int .i64 0] 59)).cell? ⟨w.heap.size, 2, none⟩ = some (.int .i64 z) := by simp [go_sem]
  have f0 : ((w.alloc (.cells #[.int .i64 x, .int .i64 y, .int .i64 z] 59)).alloc (.cells #[.int .i64 0, .int .i64 0, .int .i64 0] 59)).frozen? ⟨w.heap.size, 0, none⟩ = false := by simp [go_sem]
  have f1 : ((w.alloc (.cells #[.int .i64 x, .int .i64 y, .int .i64 z] 59)).alloc (.cells #[.int .i64 0, .int .i64 0, .int .i64 0] 59)).frozen? ⟨w.heap.size, 1, none⟩ = false := by simp [go_sem]
  have f2 : ((w.alloc (.cells #[.int .i64 x, .int .i64 y, .int .i64 z] 59)).alloc (.cells #[.int .i64 0, .int .i64 0, .int .i64 0] 59)).frozen? ⟨w.heap.size, 2, none⟩ = false := by simp [go_sem]
  have r0 : ((w.alloc (.cells #[.int .i64 x, .int .i64 y, .int .i64 z] 59)).alloc (.cells #[.int .i64 0, .int .i64 0, .int .i64 0] 59)).cell? ⟨w.heap.size + 1, 0, none⟩ = some (.int .i64 0) := by simp [go_sem]
  have r1 : ((w.alloc (.cells #[.int .i64 x, .int .i64 y, .int .i64 z] 59)).alloc (.cells #[.int .i64 0, .int .i64 0, .int .i64 0] 59)).cell? ⟨w.heap.size + 1, 1, none⟩ = some (.int .i64 0) := by simp [go_sem]
  have r2 : ((w.alloc (.cells #[.int .i64 x, .int .i64 y, .int .i64 z] 59)).alloc (.cells #[.int .i64 0, .int .i64 0, .int .i64 0] 59)).cell? ⟨w.heap.size + 1, 2, none⟩ = some (.int .i64 0) := by simp [go_sem]
  have g0 : ((w.alloc (.cells #[.int .i64 x, .int .i64 y, .int .i64 z] 59)).alloc (.cells #[.int .i64 0, .int .i64 0, .int .i64 0] 59)).frozen? ⟨w.heap.size + 1, 0, none⟩ = false := by simp [go_sem]
  have g1 : ((w.alloc (.cells #[.int .i64 x, .int .i64 y, .int .i64 z] 59)).alloc (.cells #[.int .i64 0, .int .i64 0, .int .i64 0] 59)).frozen? ⟨w.heap.size + 1, 1, none⟩ = false := by simp [go_sem]
  have g2 : ((w.alloc (.cells #[.int .i64 x, .int .i64 y, .int .i64 z] 59)).alloc (.cells #[.int .i64 0, .int .i64 0, .int .i64 0] 59)).frozen? ⟨w.heap.size + 1, 2, none⟩ = false := by simp [go_sem]
  have HL := hid ((Later.alloc w (.cells #[.int .i64 x, .int .i64 y, .int .i64 z] 59)).trans (Later.alloc _ (.cells #[.int .i64 0, .int .i64 0, .int .i64 0] 59)))
  have hs : w.heap.size + 1 < ((w.alloc (.cells #[.int .i64 x, .int .i64 y, .int .i64 z] 59)).alloc (.cells #[.int .i64 0, .int .i64 0, .int .i64 0] 59)).heap.size := by simp
  rcases hi with rfl | rfl | rfl
  · go_enter Try.func72, Try.ntmps72
    go_wp2_with fail
    generalize (w.alloc (.cells #[.int .i64 x, .int .i64 y, .int .i64 z] 59)).alloc (.cells #[.int .i64 0, .int .i64 0, .int .i64 0] 59) = w2 at c0 c1 c2 f0 f1 f2 r0 r1 r2 g0 g1 g2 HL hs ⊢
    refine (otherRoot_any x y z _ (by first | exact .inl rfl | exact .inr (.inl rfl) | exact .inr (.inr rfl)) _ hx hy hz).mono ?_
    rintro e w3 ⟨rfl, hL⟩
    replace f0 := hL.frozen c0 f0
    replace f1 := hL.frozen c1 f1
    replace f2 := hL.frozen c2 f2
    replace c0 := hL.cell c0
    replace c1 := hL.cell c1
    replace c2 := hL.cell c2
    replace g0 := hL.frozen r0 g0
    replace g1 := hL.frozen r1 g1
    replace g2 := hL.frozen r2 g2
    replace r0 := hL.cell r0
    replace r1 := hL.cell r1
    replace r2 := hL.cell r2
    have HL3 := hid (HL.out.trans hL)
    have hs3 : w.heap.size + 1 < w3.heap.size := by have := hL.size; omega
    clear hL HL hs
    go_wp2_with fail
    refine (remainder_any _ p _ hp).mono ?_
    rintro e w3' ⟨rfl, rfl⟩
    go_upto_region 2 with fail
    generalize hv : Value.int .i64 (remT (other3 x y z _) p) = nv
    generalize hset : w3.setCell _ nv = w4
    have HL4 := hid (show Later w w4 by rw [← hset]; exact HL3.out.setCell (Nat.le_refl _) _)
    have hs4 : w.heap.size + 1 < w4.heap.size := by rw [← hset]; simpa [World.setCell] using hs3
    replace f0 : w4.frozen? ⟨w.heap.size, 0, none⟩ = false := by rw [← hset, World.frozen?_setCell]; exact f0
    replace f1 : w4.frozen? ⟨w.heap.size, 1, none⟩ = false := by rw [← hset, World.frozen?_setCell]; exact f1
    replace f2 : w4.frozen? ⟨w.heap.size, 2, none⟩ = false := by rw [← hset, World.frozen?_setCell]; exact f2
    replace g0 : w4.frozen? ⟨w.heap.size + 1, 0, none⟩ = false := by rw [← hset, World.frozen?_setCell]; exact g0
    replace g1 : w4.frozen? ⟨w.heap.size + 1, 1, none⟩ = false := by rw [← hset, World.frozen?_setCell]; exact g1
    replace g2 : w4.frozen? ⟨w.heap.size + 1, 2, none⟩ = false := by rw [← hset, World.frozen?_setCell]; exact g2
    replace r0 : w4.cell? ⟨w.heap.size + 1, 0, none⟩ = some (.int .i64 0) := by rw [← hset]; exact (World.cell?_setCell_other _ _ _ _ (by simp)).trans r0
    replace r1 : w4.cell? ⟨w.heap.size + 1, 1, none⟩ = some (.int .i64 0) := by rw [← hset]; exact (World.cell?_setCell_other _ _ _ _ (by simp)).trans r1
    replace r2 : w4.cell? ⟨w.heap.size + 1, 2, none⟩ = some (.int .i64 0) := by rw [← hset]; exact (World.cell?_setCell_other _ _ _ _ (by simp)).trans r2
    replace c0 : w4.cell? ⟨w.heap.size, 0, none⟩ = some (.int .i64 (remT (3 * y * z - x) p)) := by rw [← hset, ← hv]; exact World.cell?_setCell_same _ _ _ c0
    replace c1 : w4.cell? ⟨w.heap.size, 1, none⟩ = some (.int .i64 (y)) := by rw [← hset]; exact (World.cell?_setCell_other _ _ _ _ (by simp)).trans c1
    replace c2 : w4.cell? ⟨w.heap.size, 2, none⟩ = some (.int .i64 (z)) := by rw [← hset]; exact (World.cell?_setCell_other _ _ _ _ (by simp)).trans c2
    clear hset hv
    go_wp2_with fail
    have t0 : (((w4.setCell ⟨w.heap.size + 1, 0, none⟩ (.int .i64 (remT (3 * y * z - x) p))).setCell ⟨w.heap.size + 1, 1, none⟩ (.int .i64 (y))).setCell ⟨w.heap.size + 1, 2, none⟩ (.int .i64 (z))).cell? ⟨w.heap.size + 1, 0, none⟩ = some (.int .i64 (remT (3 * y * z - x) p)) := (World.cell?_setCell_other _ _ _ _ (by simp)).trans ((World.cell?_setCell_other _ _ _ _ (by simp)).trans (World.cell?_setCell_same _ _ _ r0))
    have t1 : (((w4.setCell ⟨w.heap.size + 1, 0, none⟩ (.int .i64 (remT (3 * y * z - x) p))).setCell ⟨w.heap.size + 1, 1, none⟩ (.int .i64 (y))).setCell ⟨w.heap.size + 1, 2, none⟩ (.int .i64 (z))).cell? ⟨w.heap.size + 1, 1, none⟩ = some (.int .i64 (y)) := (World.cell?_setCell_other _ _ _ _ (by simp)).trans (World.cell?_setCell_same _ _ _ ((World.cell?_setCell_other _ _ _ _ (by simp)).trans r1))
    have t2 : (((w4.setCell ⟨w.heap.size + 1, 0, none⟩ (.int .i64 (remT (3 * y * z - x) p))).setCell ⟨w.heap.size + 1, 1, none⟩ (.int .i64 (y))).setCell ⟨w.heap.size + 1, 2, none⟩ (.int .i64 (z))).cell? ⟨w.heap.size + 1, 2, none⟩ = some (.int .i64 (z)) := World.cell?_setCell_same _ _ _ ((World.cell?_setCell_other _ _ _ _ (by simp)).trans ((World.cell?_setCell_other _ _ _ _ (by simp)).trans r2))
    have HL8 := hid (show Later w (((w4.setCell ⟨w.heap.size + 1, 0, none⟩ (.int .i64 (remT (3 * y * z - x) p))).setCell ⟨w.heap.size + 1, 1, none⟩ (.int .i64 (y))).setCell ⟨w.heap.size + 1, 2, none⟩ (.int .i64 (z))) from Below.setCell (Below.setCell (Below.setCell HL4.out (by simp) _) (by simp) _) (by simp) _)
    generalize ((w4.setCell ⟨w.heap.size + 1, 0, none⟩ (.int .i64 (remT (3 * y * z - x) p))).setCell ⟨w.heap.size + 1, 1, none⟩ (.int .i64 (y))).setCell ⟨w.heap.size + 1, 2, none⟩ (.int .i64 (z)) = w8 at t0 t1 t2 HL8 ⊢
    clear r0 r1 r2 g0 g1 g2
    try simp only [Exit.inBlock, Exit.then]
    refine bodyPost_ret (v := .agg #[.int .i64 (remT (3 * y * z - x) p), .int .i64 (y), .int .i64 (z)]) ?_ rfl ⟨_, _, _, rfl, rfl, HL8.out⟩
    rw [results_cell1 rfl]
    go_simp
  · go_enter Try.func72, Try.ntmps72
    go_wp2_with fail
    generalize (w.alloc (.cells #[.int .i64 x, .int .i64 y, .int .i64 z] 59)).alloc (.cells #[.int .i64 0, .int .i64 0, .int .i64 0] 59) = w2 at c0 c1 c2 f0 f1 f2 r0 r1 r2 g0 g1 g2 HL hs ⊢
    refine (otherRoot_any x y z _ (by first | exact .inl rfl | exact .inr (.inl rfl) | exact .inr (.inr rfl)) _ hx hy hz).mono ?_
    rintro e w3 ⟨rfl, hL⟩
    replace f0 := hL.frozen c0 f0
    replace f1 := hL.frozen c1 f1
    replace f2 := hL.frozen c2 f2
    replace c0 := hL.cell c0
    replace c1 := hL.cell c1
    replace c2 := hL.cell c2
    replace g0 := hL.frozen r0 g0
    replace g1 := hL.frozen r1 g1
    replace g2 := hL.frozen r2 g2
    replace r0 := hL.cell r0
    replace r1 := hL.cell r1
    replace r2 := hL.cell r2
    have HL3 := hid (HL.out.trans hL)
    have hs3 : w.heap.size + 1 < w3.heap.size := by have := hL.size; omega
    clear hL HL hs
    go_wp2_with fail
    refine (remainder_any _ p _ hp).mono ?_
    rintro e w3' ⟨rfl, rfl⟩
    go_upto_region 2 with fail
    generalize hv : Value.int .i64 (remT (other3 x y z _) p) = nv
    generalize hset : w3.setCell _ nv = w4
    have HL4 := hid (show Later w w4 by rw [← hset]; exact HL3.out.setCell (Nat.le_refl _) _)
    have hs4 : w.heap.size + 1 < w4.heap.size := by rw [← hset]; simpa [World.setCell] using hs3
    replace f0 : w4.frozen? ⟨w.heap.size, 0, none⟩ = false := by rw [← hset, World.frozen?_setCell]; exact f0
    replace f1 : w4.frozen? ⟨w.heap.size, 1, none⟩ = false := by rw [← hset, World.frozen?_setCell]; exact f1
    replace f2 : w4.frozen? ⟨w.heap.size, 2, none⟩ = false := by rw [← hset, World.frozen?_setCell]; exact f2
    replace g0 : w4.frozen? ⟨w.heap.size + 1, 0, none⟩ = false := by rw [← hset, World.frozen?_setCell]; exact g0
    replace g1 : w4.frozen? ⟨w.heap.size + 1, 1, none⟩ = false := by rw [← hset, World.frozen?_setCell]; exact g1
    replace g2 : w4.frozen? ⟨w.heap.size + 1, 2, none⟩ = false := by rw [← hset, World.frozen?_setCell]; exact g2
    replace r0 : w4.cell? ⟨w.heap.size + 1, 0, none⟩ = some (.int .i64 0) := by rw [← hset]; exact (World.cell?_setCell_other _ _ _ _ (by simp)).trans r0
    replace r1 : w4.cell? ⟨w.heap.size + 1, 1, none⟩ = some (.int .i64 0) := by rw [← hset]; exact (World.cell?_setCell_other _ _ _ _ (by simp)).trans r1
    replace r2 : w4.cell? ⟨w.heap.size + 1, 2, none⟩ = some (.int .i64 0) := by rw [← hset]; exact (World.cell?_setCell_other _ _ _ _ (by simp)).trans r2
    replace c0 : w4.cell? ⟨w.heap.size, 0, none⟩ = some (.int .i64 (x)) := by rw [← hset]; exact (World.cell?_setCell_other _ _ _ _ (by simp)).trans c0
    replace c1 : w4.cell? ⟨w.heap.size, 1, none⟩ = some (.int .i64 (remT (3 * z * x - y) p)) := by rw [← hset, ← hv]; exact World.cell?_setCell_same _ _ _ c1
    replace c2 : w4.cell? ⟨w.heap.size, 2, none⟩ = some (.int .i64 (z)) := by rw [← hset]; exact (World.cell?_setCell_other _ _ _ _ (by simp)).trans c2
    clear hset hv
    go_wp2_with fail
    have t0 : (((w4.setCell ⟨w.heap.size + 1, 0, none⟩ (.int .i64 (x))).setCell ⟨w.heap.size + 1, 1, none⟩ (.int .i64 (remT (3 * z * x - y) p))).setCell ⟨w.heap.size + 1, 2, none⟩ (.int .i64 (z))).cell? ⟨w.heap.size + 1, 0, none⟩ = some (.int .i64 (x)) := (World.cell?_setCell_other _ _ _ _ (by simp)).trans ((World.cell?_setCell_other _ _ _ _ (by simp)).trans (World.cell?_setCell_same _ _ _ r0))
    have t1 : (((w4.setCell ⟨w.heap.size + 1, 0, none⟩ (.int .i64 (x))).setCell ⟨w.heap.size + 1, 1, none⟩ (.int .i64 (remT (3 * z * x - y) p))).setCell ⟨w.heap.size + 1, 2, none⟩ (.int .i64 (z))).cell? ⟨w.heap.size + 1, 1, none⟩ = some (.int .i64 (remT (3 * z * x - y) p)) := (World.cell?_setCell_other _ _ _ _ (by simp)).trans (World.cell?_setCell_same _ _ _ ((World.cell?_setCell_other _ _ _ _ (by simp)).trans r1))
    have t2 : (((w4.setCell ⟨w.heap.size + 1, 0, none⟩ (.int .i64 (x))).setCell ⟨w.heap.size + 1, 1, none⟩ (.int .i64 (remT (3 * z * x - y) p))).setCell ⟨w.heap.size + 1, 2, none⟩ (.int .i64 (z))).cell? ⟨w.heap.size + 1, 2, none⟩ = some (.int .i64 (z)) := World.cell?_setCell_same _ _ _ ((World.cell?_setCell_other _ _ _ _ (by simp)).trans ((World.cell?_setCell_other _ _ _ _ (by simp)).trans r2))
    have HL8 := hid (show Later w (((w4.setCell ⟨w.heap.size + 1, 0, none⟩ (.int .i64 (x))).setCell ⟨w.heap.size + 1, 1, none⟩ (.int .i64 (remT (3 * z * x - y) p))).setCell ⟨w.heap.size + 1, 2, none⟩ (.int .i64 (z))) from Below.setCell (Below.setCell (Below.setCell HL4.out (by simp) _) (by simp) _) (by simp) _)
    generalize ((w4.setCell ⟨w.heap.size + 1, 0, none⟩ (.int .i64 (x))).setCell ⟨w.heap.size + 1, 1, none⟩ (.int .i64 (remT (3 * z * x - y) p))).setCell ⟨w.heap.size + 1, 2, none⟩ (.int .i64 (z)) = w8 at t0 t1 t2 HL8 ⊢
    clear r0 r1 r2 g0 g1 g2
    try simp only [Exit.inBlock, Exit.then]
    refine bodyPost_ret (v := .agg #[.int .i64 (x), .int .i64 (remT (3 * z * x - y) p), .int .i64 (z)]) ?_ rfl ⟨_, _, _, rfl, rfl, HL8.out⟩
    rw [results_cell1 rfl]
    go_simp
  · go_enter Try.func72, Try.ntmps72
    go_wp2_with fail
    generalize (w.alloc (.cells #[.int .i64 x, .int .i64 y, .int .i64 z] 59)).alloc (.cells #[.int .i64 0, .int .i64 0, .int .i64 0] 59) = w2 at c0 c1 c2 f0 f1 f2 r0 r1 r2 g0 g1 g2 HL hs ⊢
    refine (otherRoot_any x y z _ (by first | exact .inl rfl | exact .inr (.inl rfl) | exact .inr (.inr rfl)) _ hx hy hz).mono ?_
    rintro e w3 ⟨rfl, hL⟩
    replace f0 := hL.frozen c0 f0
    replace f1 := hL.frozen c1 f1
    replace f2 := hL.frozen c2 f2
    replace c0 := hL.cell c0
    replace c1 := hL.cell c1
    replace c2 := hL.cell c2
    replace g0 := hL.frozen r0 g0
    replace g1 := hL.frozen r1 g1
    replace g2 := hL.frozen r2 g2
    replace r0 := hL.cell r0
    replace r1 := hL.cell r1
    replace r2 := hL.cell r2
    have HL3 := hid (HL.out.trans hL)
    have hs3 : w.heap.size + 1 < w3.heap.size := by have := hL.size; omega
    clear hL HL hs
    go_wp2_with fail
    refine (remainder_any _ p _ hp).mono ?_
    rintro e w3' ⟨rfl, rfl⟩
    go_upto_region 2 with fail
    generalize hv : Value.int .i64 (remT (other3 x y z _) p) = nv
    generalize hset : w3.setCell _ nv = w4
    have HL4 := hid (show Later w w4 by rw [← hset]; exact HL3.out.setCell (Nat.le_refl _) _)
    have hs4 : w.heap.size + 1 < w4.heap.size := by rw [← hset]; simpa [World.setCell] using hs3
    replace f0 : w4.frozen? ⟨w.heap.size, 0, none⟩ = false := by rw [← hset, World.frozen?_setCell]; exact f0
    replace f1 : w4.frozen? ⟨w.heap.size, 1, none⟩ = false := by rw [← hset, World.frozen?_setCell]; exact f1
    replace f2 : w4.frozen? ⟨w.heap.size, 2, none⟩ = false := by rw [← hset, World.frozen?_setCell]; exact f2
    replace g0 : w4.frozen? ⟨w.heap.size + 1, 0, none⟩ = false := by rw [← hset, World.frozen?_setCell]; exact g0
    replace g1 : w4.frozen? ⟨w.heap.size + 1, 1, none⟩ = false := by rw [← hset, World.frozen?_setCell]; exact g1
    replace g2 : w4.frozen? ⟨w.heap.size + 1, 2, none⟩ = false := by rw [← hset, World.frozen?_setCell]; exact g2
    replace r0 : w4.cell? ⟨w.heap.size + 1, 0, none⟩ = some (.int .i64 0) := by rw [← hset]; exact (World.cell?_setCell_other _ _ _ _ (by simp)).trans r0
    replace r1 : w4.cell? ⟨w.heap.size + 1, 1, none⟩ = some (.int .i64 0) := by rw [← hset]; exact (World.cell?_setCell_other _ _ _ _ (by simp)).trans r1
    replace r2 : w4.cell? ⟨w.heap.size + 1, 2, none⟩ = some (.int .i64 0) := by rw [← hset]; exact (World.cell?_setCell_other _ _ _ _ (by simp)).trans r2
    replace c0 : w4.cell? ⟨w.heap.size, 0, none⟩ = some (.int .i64 (x)) := by rw [← hset]; exact (World.cell?_setCell_other _ _ _ _ (by simp)).trans c0
    replace c1 : w4.cell? ⟨w.heap.size, 1, none⟩ = some (.int .i64 (y)) := by rw [← hset]; exact (World.cell?_setCell_other _ _ _ _ (by simp)).trans c1
    replace c2 : w4.cell? ⟨w.heap.size, 2, none⟩ = some (.int .i64 (remT (3 * x * y - z) p)) := by rw [← hset, ← hv]; exact World.cell?_setCell_same _ _ _ c2
    clear hset hv
    go_wp2_with fail
    have t0 : (((w4.setCell ⟨w.heap.size + 1, 0, none⟩ (.int .i64 (x))).setCell ⟨w.heap.size + 1, 1, none⟩ (.int .i64 (y))).setCell ⟨w.heap.size + 1, 2, none⟩ (.int .i64 (remT (3 * x * y - z) p))).cell? ⟨w.heap.size + 1, 0, none⟩ = some (.int .i64 (x)) := (World.cell?_setCell_other _ _ _ _ (by simp)).trans ((World.cell?_setCell_other _ _ _ _ (by simp)).trans (World.cell?_setCell_same _ _ _ r0))
    have t1 : (((w4.setCell ⟨w.heap.size + 1, 0, none⟩ (.int .i64 (x))).setCell ⟨w.heap.size + 1, 1, none⟩ (.int .i64 (y))).setCell ⟨w.heap.size + 1, 2, none⟩ (.int .i64 (remT (3 * x * y - z) p))).cell? ⟨w.heap.size + 1, 1, none⟩ = some (.int .i64 (y)) := (World.cell?_setCell_other _ _ _ _ (by simp)).trans (World.cell?_setCell_same _ _ _ ((World.cell?_setCell_other _ _ _ _ (by simp)).trans r1))
    have t2 : (((w4.setCell ⟨w.heap.size + 1, 0, none⟩ (.int .i64 (x))).setCell ⟨w.heap.size + 1, 1, none⟩ (.int .i64 (y))).setCell ⟨w.heap.size + 1, 2, none⟩ (.int .i64 (remT (3 * x * y - z) p))).cell? ⟨w.heap.size + 1, 2, none⟩ = some (.int .i64 (remT (3 * x * y - z) p)) := World.cell?_setCell_same _ _ _ ((World.cell?_setCell_other _ _ _ _ (by simp)).trans ((World.cell?_setCell_other _ _ _ _ (by simp)).trans r2))
    have HL8 := hid (show Later w (((w4.setCell ⟨w.heap.size + 1, 0, none⟩ (.int .i64 (x))).setCell ⟨w.heap.size + 1, 1, none⟩ (.int .i64 (y))).setCell ⟨w.heap.size + 1, 2, none⟩ (.int .i64 (remT (3 * x * y - z) p))) from Below.setCell (Below.setCell (Below.setCell HL4.out (by simp) _) (by simp) _) (by simp) _)
    generalize ((w4.setCell ⟨w.heap.size + 1, 0, none⟩ (.int .i64 (x))).setCell ⟨w.heap.size + 1, 1, none⟩ (.int .i64 (y))).setCell ⟨w.heap.size + 1, 2, none⟩ (.int .i64 (remT (3 * x * y - z) p)) = w8 at t0 t1 t2 HL8 ⊢
    clear r0 r1 r2 g0 g1 g2
    try simp only [Exit.inBlock, Exit.then]
    refine bodyPost_ret (v := .agg #[.int .i64 (x), .int .i64 (y), .int .i64 (remT (3 * x * y - z) p)]) ?_ rfl ⟨_, _, _, rfl, rfl, HL8.out⟩
    rw [results_cell1 rfl]
    go_simp
end Go.Proofs.Ytjnhhjnfdaaaeab
