/- Contracts of MarkovDown and MarkovMove. -/
import Derived.Test.YtdahhcigphhfdabMkM
import Derived.Laws.StructEq
import Derived.ChangeKeysEq
namespace Go.Proofs.Ytdahhcigphhfdab
open Go.RowKit

set_option maxRecDepth 20000 in
theorem greatest_any (x y z : Int) (w : World) :
    Calls Try.prog 106 #[.agg #[.int .i64 x, .int .i64 y, .int .i64 z]] w fun e w' => e = .returned (.int .i64 (high3 x y z)) ∧ Later w w' := by
  have c0 : (w.alloc (.cells #[.int .i64 x, .int .i64 y, .int .i64 z] 106)).cell? ⟨w.heap.size, 0, none⟩ = some (.int .i64 x) := by simp [go_sem]
  have c1 : (w.alloc (.cells #[.int .i64 x, .int .i64 y, .int .i64 z] 106)).cell? ⟨w.heap.size, 1, none⟩ = some (.int .i64 y) := by simp [go_sem]
  have c2 : (w.alloc (.cells #[.int .i64 x, .int .i64 y, .int .i64 z] 106)).cell? ⟨w.heap.size, 2, none⟩ = some (.int .i64 z) := by simp [go_sem]
  have HL := hid (Later.alloc w (.cells #[.int .i64 x, .int .i64 y, .int .i64 z] 106))
  go_enter Try.func106, Try.ntmps106
  go_wp2_with fail
  all_goals
    go_ret
    refine ⟨ret_int ?_, HL.out⟩
    unfold high3 mostI
    grind
set_option maxRecDepth 20000 in
theorem list_any (x y z : Int) (w : World) :
    Calls Try.prog 107 #[.agg #[.int .i64 x, .int .i64 y, .int .i64 z]] w fun e w' => MadeInts w [x, y, z] e w' := by
  have c0 : (w.alloc (.cells #[.int .i64 x, .int .i64 y, .int .i64 z] 106)).cell? ⟨w.heap.size, 0, none⟩ = some (.int .i64 x) := by simp [go_sem]
  have c1 : (w.alloc (.cells #[.int .i64 x, .int .i64 y, .int .i64 z] 106)).cell? ⟨w.heap.size, 1, none⟩ = some (.int .i64 y) := by simp [go_sem]
  have c2 : (w.alloc (.cells #[.int .i64 x, .int .i64 y, .int .i64 z] 106)).cell? ⟨w.heap.size, 2, none⟩ = some (.int .i64 z) := by simp [go_sem]
  have HL := hid (Later.alloc w (.cells #[.int .i64 x, .int .i64 y, .int .i64 z] 106))
  go_enter Try.func107, Try.ntmps107
  go_wp2_with fail
  go_ret
  have h := ownsThree (w.alloc (.cells #[.int .i64 x, .int .i64 y, .int .i64 z] 106)) x y z
  rw [show (w.alloc (.cells #[.int .i64 x, .int .i64 y, .int .i64 z] 106)).heap.size = w.heap.size + 1 by simp] at h
  exact ⟨_, rfl, h.wide (by omega) (by simp), HL.out.trans (Later.alloc _ _)⟩
def isRoot3 (x y z : Int) : Bool := decide (x = 1) && decide (y = 1) && decide (z = 1)
/-- '==' at two triples. -/
theorem eqTri (x y z a b c : Int) (w : World) : (Op.equalIn 10000 106 (.agg #[.int .i64 x, .int .i64 y, .int .i64 z]) (.agg #[.int .i64 a, .int .i64 b, .int .i64 c])).run Try.prog w = .ok (x == a && (y == b && z == c)) w := by
  obtain ⟨i0, hi, hz0, hz1, hz2⟩ := info_parts Try.infoInt
  have hc : Try.prog.cellsOf 3 = 1 := by kernel_rfl
  have u3 := Try.underlying3
  have a3 := Try.isAgg3
  have z3 := Try.sizeOf3
  rw [show (10000 : Nat) = 9999 + 1 from rfl, run_equalIn_array w 9999 _ _ Try.underlying106 hi, hc, show (9999 : Nat) = 9998 + 1 from rfl]
  simp only [List.range_succ, List.range_zero, List.nil_append, List.cons_append]
  simp only [Op.eqItems]
  go_simp
  by_cases h1 : x = a <;> by_cases h2 : y = b <;> by_cases h3 : z = c <;> simp [h1, h2, h3]
set_option maxRecDepth 20000 in
theorem isMarkovRoot_any (x y z : Int) (w : World) :
    Calls Try.prog 118 #[.agg #[.int .i64 x, .int .i64 y, .int .i64 z]] w fun e w' => e = .returned (.bool (isRoot3 x y z)) ∧ Later w w' := by
  have c0 : (w.alloc (.cells #[.int .i64 x, .int .i64 y, .int .i64 z] 106)).cell? ⟨w.heap.size, 0, none⟩ = some (.int .i64 x) := by simp [go_sem]
  have c1 : (w.alloc (.cells #[.int .i64 x, .int .i64 y, .int .i64 z] 106)).cell? ⟨w.heap.size, 1, none⟩ = some (.int .i64 y) := by simp [go_sem]
  have c2 : (w.alloc (.cells #[.int .i64 x, .int .i64 y, .int .i64 z] 106)).cell? ⟨w.heap.size, 2, none⟩ = some (.int .i64 z) := by simp [go_sem]
  have HL := hid (Later.alloc w (.cells #[.int .i64 x, .int .i64 y, .int .i64 z] 106))
  have heq := eqTri x y z 1 1 1
  go_enter Try.func118, Try.ntmps118
  go_wp2_with fail
  go_ret
  exact ⟨ret_bool (by simp [isRoot3, Bool.and_assoc]; rfl), HL.out⟩
end Go.Proofs.Ytdahhcigphhfdab
