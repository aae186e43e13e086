/- The order of triples in the program. -/
import Derived.Test.YtdahhcigphhfdabMuT
import Derived.Test.YtdahhcigphhfdabCmpL
import Derived.Test.YtdahhcigphhfdabLaySortT
import Derived.Deep.QuietTactic
namespace Go.Proofs.Ytdahhcigphhfdab
open Go.RowKit

def cmpTr (t u : Tr) : Int := cmpLL (trL t) (trL u)
open Go.Sort in
theorem box3_ints {w : World} {B : Nat} {x y z : Int} (h0 : w.cell? ⟨B, 0, none⟩ = some (.int .i64 x)) (h1 : w.cell? ⟨B, 1, none⟩ = some (.int .i64 y)) (h2 : w.cell? ⟨B, 2, none⟩ = some (.int .i64 z)) : Ints w (.slice (some ⟨B, 0, none⟩) 3 3) [x, y, z] := by
  refine ⟨_, 3, rfl, by simp, fun i hi => ⟨_, rfl, ?_⟩⟩
  match i, hi with
  | 0, _ => exact h0
  | 1, _ => exact h1
  | 2, _ => exact h2

open Go.Sort in
set_option maxRecDepth 20000 in
set_option maxHeartbeats 2000000 in
theorem compareTr_any (t u : Tr) (w : World) :
    Calls Try.prog 114 #[.agg #[.int .i64 t.1, .int .i64 t.2.1, .int .i64 t.2.2], .agg #[.int .i64 u.1, .int .i64 u.2.1, .int .i64 u.2.2]] w fun e w' => e = .returned (.int .i64 (cmpTr t u)) ∧ ∃ q os', w' = grow (w.drewN q) os' := by
  obtain ⟨x, y, z⟩ := t
  obtain ⟨p, q, r⟩ := u
  simp only
  obtain ⟨o, ho⟩ : ∃ o, cmpTr (x, y, z) (p, q, r) = o := ⟨_, rfl⟩
  have HC := hid (fun (v v' : Value) w' (h1 : Ints w' v [x, y, z]) (h2 : Ints w' v' [p, q, r]) => show Calls Try.prog 148 #[v, v'] w' fun e w2 => e = .returned (.int .i64 o) ∧ w2 = w' by rw [← ho]; exact (compareL_any v v' _ _ 3 w' rfl rfl h1 h2).mono fun _ _ h => ⟨h.1, h.2.symm⟩)
  rw [ho]
  clear ho
  go_enter Try.func114, Try.ntmps114
  go_upto_region 1 with fail
  have HG := hid (show (w.alloc (.cells #[.int .i64 x, .int .i64 y, .int .i64 z] 106)).alloc (.cells #[.int .i64 p, .int .i64 q, .int .i64 r] 106) = grow w #[.cells #[.int .i64 x, .int .i64 y, .int .i64 z] 106, .cells #[.int .i64 p, .int .i64 q, .int .i64 r] 106] from rfl)
  have c0 : ((w.alloc (.cells #[.int .i64 x, .int .i64 y, .int .i64 z] 106)).alloc (.cells #[.int .i64 p, .int .i64 q, .int .i64 r] 106)).cell? ⟨w.heap.size, 0, none⟩ = some (.int .i64 x) := by simp [go_sem]
  have c1 : ((w.alloc (.cells #[.int .i64 x, .int .i64 y, .int .i64 z] 106)).alloc (.cells #[.int .i64 p, .int .i64 q, .int .i64 r] 106)).cell? ⟨w.heap.size, 1, none⟩ = some (.int .i64 y) := by simp [go_sem]
  have c2 : ((w.alloc (.cells #[.int .i64 x, .int .i64 y, .int .i64 z] 106)).alloc (.cells #[.int .i64 p, .int .i64 q, .int .i64 r] 106)).cell? ⟨w.heap.size, 2, none⟩ = some (.int .i64 z) := by simp [go_sem]
  have d0 : ((w.alloc (.cells #[.int .i64 x, .int .i64 y, .int .i64 z] 106)).alloc (.cells #[.int .i64 p, .int .i64 q, .int .i64 r] 106)).cell? ⟨w.heap.size + 1, 0, none⟩ = some (.int .i64 p) := by simp [go_sem]
  have d1 : ((w.alloc (.cells #[.int .i64 x, .int .i64 y, .int .i64 z] 106)).alloc (.cells #[.int .i64 p, .int .i64 q, .int .i64 r] 106)).cell? ⟨w.heap.size + 1, 1, none⟩ = some (.int .i64 q) := by simp [go_sem]
  have d2 : ((w.alloc (.cells #[.int .i64 x, .int .i64 y, .int .i64 z] 106)).alloc (.cells #[.int .i64 p, .int .i64 q, .int .i64 r] 106)).cell? ⟨w.heap.size + 1, 2, none⟩ = some (.int .i64 r) := by simp [go_sem]
  generalize (w.alloc (.cells #[.int .i64 x, .int .i64 y, .int .i64 z] 106)).alloc (.cells #[.int .i64 p, .int .i64 q, .int .i64 r] 106) = wa at HG c0 c1 c2 d0 d1 d2 ⊢
  have HI := hid (box3_ints c0 c1 c2)
  have HJ := hid (box3_ints d0 d1 d2)
  go_quiet (first | (go_at_call 148; exact Calls.quiet_of_same (HC.out _ _ _ (HI.out.later (Later.drewN wa _)) (HJ.out.later (Later.drewN wa _)))) | (trace_state; fail))
  rw [HG.out]
  go_wp2_with fail
  go_ret
  exact ⟨rfl, nq, _, rfl⟩
end Go.Proofs.Ytdahhcigphhfdab
