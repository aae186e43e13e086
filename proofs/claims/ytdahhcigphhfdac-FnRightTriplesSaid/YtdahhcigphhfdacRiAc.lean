/- All right triples up to a bound: the comparison in the program. -/
import Derived.Test.YtdahhcigphhfdacRiAb
import Derived.Shelf.SlSortCmp.NoneTotal
namespace Go.Proofs.Ytdahhcigphhfdac
open Go.RowKit Go.Sort

theorem ints2 (w : World) (a b : Int) : Ints (w.alloc (.cells #[.int .i64 a, .int .i64 b] 3)) (.slice (some ⟨w.heap.size, 0, none⟩) 2 2) [a, b] := by
  refine ⟨_, _, rfl, by simp, fun i hi => ⟨_, rfl, ?_⟩⟩
  rw [addr_add0]
  have hi2 : i = 0 ∨ i = 1 := by simp at hi; omega
  rcases hi2 with rfl | rfl <;> simp [go_sem]
set_option maxRecDepth 20000 in
set_option maxHeartbeats 2000000 in
theorem compareRt_any (p q : Rt) (w : World) :
    Calls Try.prog 71 #[.agg (rtV p.1 p.2).toArray, .agg (rtV q.1 q.2).toArray] w fun e w' => e = .returned (.int .i64 (cmpRt p q)) ∧ ∃ n os', w' = grow (w.drewN n) os' := by
  obtain ⟨c1, h1⟩ : ∃ c, cmpI (rtZ p) (rtZ q) = c := ⟨_, rfl⟩
  obtain ⟨c2, h2⟩ : ∃ c, cmpI (rtX p) (rtX q) = c := ⟨_, rfl⟩
  have HE := hid (show cmpRt p q = orI c1 c2 by unfold cmpRt; rw [h1, h2])
  have HC1 := hid (fun w0 => show Calls Try.prog 116 #[.int .i64 (p.1 * p.1 + p.2 * p.2), .int .i64 (q.1 * q.1 + q.2 * q.2)] w0 fun e w' => e = .returned (.int .i64 c1) ∧ w0 = w' from by rw [← h1]; exact cmpInt_any _ _ w0)
  have HC2 := hid (fun w0 => show Calls Try.prog 116 #[.int .i64 (p.1 * p.1 - p.2 * p.2), .int .i64 (q.1 * q.1 - q.2 * q.2)] w0 fun e w' => e = .returned (.int .i64 c2) ∧ w0 = w' from by rw [← h2]; exact cmpInt_any _ _ w0)
  rw [HE.out]
  clear h1 h2
  unfold rtV
  have hA := (arr5_alloc w (.int .i64 p.1) (.int .i64 p.2) (.int .i64 (p.1 * p.1 - p.2 * p.2)) (.int .i64 (2 * p.1 * p.2)) (.int .i64 (p.1 * p.1 + p.2 * p.2)) 69).later (Later.alloc _ (.cells #[.int .i64 q.1, .int .i64 q.2, .int .i64 (q.1 * q.1 - q.2 * q.2), .int .i64 (2 * q.1 * q.2), .int .i64 (q.1 * q.1 + q.2 * q.2)] 69))
  have hB := arr5_alloc (w.alloc (.cells #[.int .i64 p.1, .int .i64 p.2, .int .i64 (p.1 * p.1 - p.2 * p.2), .int .i64 (2 * p.1 * p.2), .int .i64 (p.1 * p.1 + p.2 * p.2)] 69)) (.int .i64 q.1) (.int .i64 q.2) (.int .i64 (q.1 * q.1 - q.2 * q.2)) (.int .i64 (2 * q.1 * q.2)) (.int .i64 (q.1 * q.1 + q.2 * q.2)) 69
  have hs : (w.alloc (.cells #[.int .i64 p.1, .int .i64 p.2, .int .i64 (p.1 * p.1 - p.2 * p.2), .int .i64 (2 * p.1 * p.2), .int .i64 (p.1 * p.1 + p.2 * p.2)] 69)).heap.size = w.heap.size + 1 := by simp
  rw [hs] at hB
  have c3 := hA.c2
  have c4 := hA.c4
  have d3 := hB.c2
  have d4 := hB.c4
  have HG := hid (show (w.alloc (.cells #[.int .i64 p.1, .int .i64 p.2, .int .i64 (p.1 * p.1 - p.2 * p.2), .int .i64 (2 * p.1 * p.2), .int .i64 (p.1 * p.1 + p.2 * p.2)] 69)).alloc (.cells #[.int .i64 q.1, .int .i64 q.2, .int .i64 (q.1 * q.1 - q.2 * q.2), .int .i64 (2 * q.1 * q.2), .int .i64 (q.1 * q.1 + q.2 * q.2)] 69) = grow w #[.cells #[.int .i64 p.1, .int .i64 p.2, .int .i64 (p.1 * p.1 - p.2 * p.2), .int .i64 (2 * p.1 * p.2), .int .i64 (p.1 * p.1 + p.2 * p.2)] 69, .cells #[.int .i64 q.1, .int .i64 q.2, .int .i64 (q.1 * q.1 - q.2 * q.2), .int .i64 (2 * q.1 * q.2), .int .i64 (q.1 * q.1 + q.2 * q.2)] 69] from rfl)
  clear hA hB hs
  go_enter Try.func71, Try.ntmps71
  go_upto_region 1 with fail
  generalize (w.alloc (.cells #[.int .i64 p.1, .int .i64 p.2, .int .i64 (p.1 * p.1 - p.2 * p.2), .int .i64 (2 * p.1 * p.2), .int .i64 (p.1 * p.1 + p.2 * p.2)] 69)).alloc (.cells #[.int .i64 q.1, .int .i64 q.2, .int .i64 (q.1 * q.1 - q.2 * q.2), .int .i64 (2 * q.1 * q.2), .int .i64 (q.1 * q.1 + q.2 * q.2)] 69) = wa at HG c3 c4 d3 d4 ⊢
  have TK1 := hid trivial
  have TK2 := hid trivial
  go_region_held3 (fun w' => w'.cell? ⟨w.heap.size, 2, none⟩ = some (.int .i64 (p.1 * p.1 - p.2 * p.2)) ∧ w'.cell? ⟨w.heap.size, 4, none⟩ = some (.int .i64 (p.1 * p.1 + p.2 * p.2)) ∧ w'.cell? ⟨w.heap.size + 1, 2, none⟩ = some (.int .i64 (q.1 * q.1 - q.2 * q.2)) ∧ w'.cell? ⟨w.heap.size + 1, 4, none⟩ = some (.int .i64 (q.1 * q.1 + q.2 * q.2))) (first | exact ⟨c3, c4, d3, d4⟩ | go_keep) (first | (have hh := TK1; clear hh; go_at_call 116; refine (HC1.out _).mono ?_; rintro e w5 ⟨rfl, rfl⟩; clear TK1) | (have hh := TK2; clear hh; go_at_call 116; refine (HC2.out _).mono ?_; rintro e w5 ⟨rfl, rfl⟩; clear TK2) | (go_at_call 115; refine (cmpOr2_any c1 c2 _ _ ((ints2 wa c1 c2).later (Later.drew _))).mono ?_; rintro e w6 ⟨rfl, rfl⟩))
  all_goals go_wp2_with fail
  all_goals go_ret
  all_goals exact ⟨rfl, 1, #[.cells #[.int .i64 p.1, .int .i64 p.2, .int .i64 (p.1 * p.1 - p.2 * p.2), .int .i64 (2 * p.1 * p.2), .int .i64 (p.1 * p.1 + p.2 * p.2)] 69, .cells #[.int .i64 q.1, .int .i64 q.2, .int .i64 (q.1 * q.1 - q.2 * q.2), .int .i64 (2 * q.1 * q.2), .int .i64 (q.1 * q.1 + q.2 * q.2)] 69, .cells #[.int .i64 c1, .int .i64 c2] 3], by rw [HG.out]; rfl⟩
end Go.Proofs.Ytdahhcigphhfdac
