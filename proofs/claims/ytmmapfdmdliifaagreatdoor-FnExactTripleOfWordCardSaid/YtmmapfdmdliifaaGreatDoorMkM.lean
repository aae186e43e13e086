/- Contracts of the moves: otherRoot, slices.Sort at three numbers, moved, greatest, list (the program). -/
import Derived.Test.YtmmapfdmdliifaaGreatDoorMkG
import Derived.Test.YtmmapfdmdliifaaGreatDoorLaySort
import Derived.Sort.OwnSortedInts
namespace Go.Proofs.YtmmapfdmdliifaaGreatDoor
open Go.RowKit

def other3 (x y z : Int) : Nat → Int
  | 0 => 3 * y * z - x
  | 1 => 3 * z * x - y
  | _ => 3 * x * y - z
def Cnt0 (x : Int) : Prop := 0 ≤ x ∧ x ≤ 1000000000
theorem mul_le18' {x y : Int} (hx : Cnt0 x) (hy : Cnt0 y) : 0 ≤ 3 * x * y ∧ 3 * x * y ≤ 3000000000000000000 := by
  have h1 : x * y ≤ 1000000000 * y := Int.mul_le_mul_of_nonneg_right hx.2 hy.1
  have h2 : 0 ≤ x * y := Int.mul_nonneg hx.1 hy.1
  have h3 : 3 * x * y = 3 * (x * y) := by grind
  have := hy.2
  omega

open Go.Sort in
/-- slices.Sort at the three cells of block b. -/
theorem sort3_any (b : Nat) (x y z : Int) (w : World) (c0 : w.cell? ⟨b, 0, none⟩ = some (.int .i64 x)) (c1 : w.cell? ⟨b, 1, none⟩ = some (.int .i64 y)) (c2 : w.cell? ⟨b, 2, none⟩ = some (.int .i64 z))
    (f0 : w.frozen? ⟨b, 0, none⟩ = false) (f1 : w.frozen? ⟨b, 1, none⟩ = false) (f2 : w.frozen? ⟨b, 2, none⟩ = false) :
    Calls Tryz.prog 15 #[.slice (some ⟨b, 0, none⟩) 3 3] w fun e w' => e = .returned (.tuple #[]) ∧ w.grownBy w' (some b) ∧
      w'.cell? ⟨b, 0, none⟩ = some (.int .i64 (low3 x y z)) ∧ w'.cell? ⟨b, 1, none⟩ = some (.int .i64 (mid3 x y z)) ∧ w'.cell? ⟨b, 2, none⟩ = some (.int .i64 (high3 x y z)) := by
  have hb : b < w.heap.size := World.block_lt_of_cell? w ⟨b, 0, none⟩ c0
  have hH : Holds (Value.int .i64) w b 0 [x, y, z].toArray := by
    intro j hj
    match j, hj with
    | 0, _ => exact ⟨by simpa using c0, by simpa using f0⟩
    | 1, _ => exact ⟨by simpa using c1, by simpa using f1⟩
    | 2, _ => exact ⟨by simpa using c2, by simpa using f2⟩
  refine (Any.slices_Sort_int laysLays189 b 0 3 [x, y, z] w hH hb (by simp)).mono ?_
  rintro e w' ⟨rfl, n, os, rfl⟩
  rw [merge3]
  have hc := fun j hj => cell?_putRow (Value.int .i64) (Sort.ahead w n) b 0 [x, y, z].toArray (ordL x y z).toArray (fun j hj => ⟨(hH j hj).1, (hH j hj).2⟩) (by simp [ordL]) j hj
  have hg : ∀ a : Addr, a.block = b → (grow (putRow (Value.int .i64) (Sort.ahead w n) b 0 (ordL x y z).toArray) os).cell? a = (putRow (Value.int .i64) (Sort.ahead w n) b 0 (ordL x y z).toArray).cell? a := fun a ha => cell?_grow _ _ _ (by rw [ha]; simpa using hb)
  refine ⟨rfl, grownBy_sortedI _, ?_, ?_, ?_⟩
  · rw [hg _ rfl]; simpa [ordL] using hc 0 (by simp [ordL])
  · rw [hg _ rfl]; simpa [ordL] using hc 1 (by simp [ordL])
  · rw [hg _ rfl]; simpa [ordL] using hc 2 (by simp [ordL])

/-- one result, a variable of its own -/
theorem results_cell1 {fn : Func} {p : Tmp} {ty : TypeId} (h : fn.results = #[.cell p ty]) (tmps : Array Value) (P : Program) (w : World) :
    (results fn tmps).run P w = ((asAddr (tmps.getD p undef)).run P w).andThen fun a w₁ => (loadVar ty a).run P w₁ := by
  simp only [results, h]
  simp [Sem.run_bind, Result.andThen]
def moveL (x y z : Int) : Nat → List Int
  | 0 => ordL (3 * y * z - x) y z
  | 1 => ordL x (3 * z * x - y) z
  | _ => ordL x y (3 * x * y - z)
def Tri (w : World) (l : List Int) (e : Ending) (w' : World) : Prop := ∃ p q r, l = [p, q, r] ∧ e = .returned (.agg #[.int .i64 p, .int .i64 q, .int .i64 r]) ∧ Later w w'

end Go.Proofs.YtmmapfdmdliifaaGreatDoor
