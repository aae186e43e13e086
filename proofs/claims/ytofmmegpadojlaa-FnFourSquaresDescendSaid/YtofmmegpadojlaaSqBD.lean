/- Products of lists of squares as arrays, in the program. -/
import Derived.Test.YtofmmegpadojlaaSqBC
namespace Go.Proofs.Ytofmmegpadojlaa
open Go.RowKit

theorem results_cellN {fn : Func} {p : Tmp} {ty : TypeId} (h : fn.results = #[.cell p ty]) (tmps : Array Value) (P : Program) (w : World) :
    (results fn tmps).run P w = ((asAddr (tmps.getD p undef)).run P w).andThen fun a w₁ => (loadVar ty a).run P w₁ := by
  simp only [results, h]
  simp [Sem.run_bind, Result.andThen]
set_option maxRecDepth 100000 in
set_option maxHeartbeats 8000000 in
theorem product2_any (a b x y : Int) (w : World) (ha : In6 a) (hb : In6 b) (hx : In6 x) (hy : In6 y) :
    Calls Try.prog 93 #[.agg #[.int .i64 a, .int .i64 b], .agg #[.int .i64 x, .int .i64 y]] w fun e w' => e = .returned (.agg #[.int .i64 (a * x - b * y), .int .i64 (a * y + b * x)]) ∧ Later w w' := by
  have m0 := mulBd ha hx (by omega)
  have m1 := mulBd ha hy (by omega)
  have m2 := mulBd hb hx (by omega)
  have m3 := mulBd hb hy (by omega)
  have L1 := Later.alloc w (.cells #[.int .i64 a, .int .i64 b] 42)
  have L2 := Later.alloc (w.alloc (.cells #[.int .i64 a, .int .i64 b] 42)) (.cells #[.int .i64 x, .int .i64 y] 42)
  have L3 := Later.alloc ((w.alloc (.cells #[.int .i64 a, .int .i64 b] 42)).alloc (.cells #[.int .i64 x, .int .i64 y] 42)) (.cells #[.int .i64 0, .int .i64 0] 42)
  have HA := hid (((NBox.new w [a, b] #[.int .i64 a, .int .i64 b] 42 rfl).later L2).later L3)
  have HB := hid ((NBox.new (w.alloc (.cells #[.int .i64 a, .int .i64 b] 42)) [x, y] #[.int .i64 x, .int .i64 y] 42 rfl).later L3)
  have HR := hid (NBox.new ((w.alloc (.cells #[.int .i64 a, .int .i64 b] 42)).alloc (.cells #[.int .i64 x, .int .i64 y] 42)) [0, 0] #[.int .i64 0, .int .i64 0] 42 rfl)
  have HL := hid ((L1.trans L2).trans L3)
  simp only [World.size_alloc] at HB HR
  clear L1 L2 L3 ha hb hx hy
  obtain ⟨W, hW⟩ : ∃ W, ((w.alloc (.cells #[.int .i64 a, .int .i64 b] 42)).alloc (.cells #[.int .i64 x, .int .i64 y] 42)).alloc (.cells #[.int .i64 0, .int .i64 0] 42) = W := ⟨_, rfl⟩
  rw [hW] at HA HB HR HL
  have c0 := (HA.out 0 a rfl).1
  have d0 := (HB.out 0 x rfl).1
  have r0 := (HR.out 0 0 rfl).1
  have f0 := (HR.out 0 0 rfl).2
  have c1 := (HA.out 1 b rfl).1
  have d1 := (HB.out 1 y rfl).1
  have r1 := (HR.out 1 0 rfl).1
  have f1 := (HR.out 1 0 rfl).2
  go_enter Try.func93, Try.ntmps93
  go_wp2_with fail
  refine bodyPost_ret (v := .agg #[.int .i64 (a * x - b * y), .int .i64 (a * y + b * x)]) ?_ rfl ?_
  · rw [results_cellN rfl]
    go_simp
  · exact ⟨rfl, (Below.setCell (p := ⟨w.heap.size + 1 + 1, 1, none⟩) (Below.setCell (p := ⟨w.heap.size + 1 + 1, 0, none⟩) HL.out (by simp only; omega) _) (by simp only; omega) _)⟩
set_option maxRecDepth 100000 in
set_option maxHeartbeats 8000000 in
theorem mirrored_any (a b x y : Int) (w : World) (ha : In6 a) (hb : In6 b) (hx : In6 x) (hy : In6 y) :
    Calls Try.prog 58 #[.agg #[.int .i64 a, .int .i64 b], .agg #[.int .i64 x, .int .i64 y]] w fun e w' => e = .returned (.agg #[.int .i64 (a * x + b * y), .int .i64 (a * y - b * x)]) ∧ Later w w' := by
  have L1 := Later.alloc w (.cells #[.int .i64 a, .int .i64 b] 42)
  have L2 := Later.alloc (w.alloc (.cells #[.int .i64 a, .int .i64 b] 42)) (.cells #[.int .i64 x, .int .i64 y] 42)
  have L3 := Later.alloc ((w.alloc (.cells #[.int .i64 a, .int .i64 b] 42)).alloc (.cells #[.int .i64 x, .int .i64 y] 42)) (.cells #[.int .i64 0, .int .i64 0] 42)
  have HA := hid (((NBox.new w [a, b] #[.int .i64 a, .int .i64 b] 42 rfl).later L2).later L3)
  have HB := hid ((NBox.new (w.alloc (.cells #[.int .i64 a, .int .i64 b] 42)) [x, y] #[.int .i64 x, .int .i64 y] 42 rfl).later L3)
  have HR := hid (NBox.new ((w.alloc (.cells #[.int .i64 a, .int .i64 b] 42)).alloc (.cells #[.int .i64 x, .int .i64 y] 42)) [0, 0] #[.int .i64 0, .int .i64 0] 42 rfl)
  have HL := hid ((L1.trans L2).trans L3)
  simp only [World.size_alloc] at HB HR
  clear L1 L2 L3
  obtain ⟨W, hW⟩ : ∃ W, ((w.alloc (.cells #[.int .i64 a, .int .i64 b] 42)).alloc (.cells #[.int .i64 x, .int .i64 y] 42)).alloc (.cells #[.int .i64 0, .int .i64 0] 42) = W := ⟨_, rfl⟩
  rw [hW] at HA HB HR HL
  have c0 := (HA.out 0 a rfl).1
  have d0 := (HB.out 0 x rfl).1
  have c1 := (HA.out 1 b rfl).1
  have d1 := (HB.out 1 y rfl).1
  have HP := hid (fun w => product2_any a (-b) x y w ha ⟨by have := hb.2; omega, by have := hb.1; omega⟩ hx hy)
  have e1 : a * x - -b * y = a * x + b * y := by grind
  have e2 : a * y + -b * x = a * y - b * x := by grind
  rw [e1, e2] at HP
  have hbw : IntKind.i64.wrap (-b) = -b := by rw [IntWalk.i64_left]; exact IntWalk.wrap64_in _ (by have := hb.1; have := hb.2; omega)
  clear e1 e2 ha hb hx hy
  go_enter Try.func58, Try.ntmps58
  go_wp2_with (go_at_call 93; refine (HP.out _).mono ?_; rintro e w3 ⟨rfl, hL3⟩; have HR3 := hid (HR.out.later hL3); have HL3 := hid (HL.out.trans hL3); clear hL3; have r0 := (HR3.out 0 0 rfl).1; have f0 := (HR3.out 0 0 rfl).2; have r1 := (HR3.out 1 0 rfl).1; have f1 := (HR3.out 1 0 rfl).2)
  refine bodyPost_ret (v := .agg #[.int .i64 (a * x + b * y), .int .i64 (a * y - b * x)]) ?_ rfl ?_
  · rw [results_cellN rfl]
    go_simp
  · exact ⟨rfl, (Below.setCell (p := ⟨w.heap.size + 1 + 1, 1, none⟩) (Below.setCell (p := ⟨w.heap.size + 1 + 1, 0, none⟩) HL3.out (by simp only; omega) _) (by simp only; omega) _)⟩
set_option maxRecDepth 100000 in
set_option maxHeartbeats 8000000 in
theorem product4_any (a b c d x y z t : Int) (w : World) (ha : In6 a) (hb : In6 b) (hc : In6 c) (hd : In6 d) (hx : In6 x) (hy : In6 y) (hz : In6 z) (ht : In6 t) :
    Calls Try.prog 74 #[.agg #[.int .i64 a, .int .i64 b, .int .i64 c, .int .i64 d], .agg #[.int .i64 x, .int .i64 y, .int .i64 z, .int .i64 t]] w fun e w' => e = .returned (.agg #[.int .i64 (a * x + b * y + c * z + d * t), .int .i64 (a * y - b * x + c * t - d * z), .int .i64 (a * z - c * x + d * y - b * t), .int .i64 (a * t - d * x + b * z - c * y)]) ∧ Later w w' := by
  have m0 := mulBd ha hx (by omega)
  have m1 := mulBd ha hy (by omega)
  have m2 := mulBd ha hz (by omega)
  have m3 := mulBd ha ht (by omega)
  have m4 := mulBd hb hx (by omega)
  have m5 := mulBd hb hy (by omega)
  have m6 := mulBd hb hz (by omega)
  have m7 := mulBd hb ht (by omega)
  have m8 := mulBd hc hx (by omega)
  have m9 := mulBd hc hy (by omega)
  have m10 := mulBd hc hz (by omega)
  have m11 := mulBd hc ht (by omega)
  have m12 := mulBd hd hx (by omega)
  have m13 := mulBd hd hy (by omega)
  have m14 := mulBd hd hz (by omega)
  have m15 := mulBd hd ht (by omega)
  have L1 := Later.alloc w (.cells #[.int .i64 a, .int .i64 b, .int .i64 c, .int .i64 d] 57)
  have L2 := Later.alloc (w.alloc (.cells #[.int .i64 a, .int .i64 b, .int .i64 c, .int .i64 d] 57)) (.cells #[.int .i64 x, .int .i64 y, .int .i64 z, .int .i64 t] 57)
  have L3 := Later.alloc ((w.alloc (.cells #[.int .i64 a, .int .i64 b, .int .i64 c, .int .i64 d] 57)).alloc (.cells #[.int .i64 x, .int .i64 y, .int .i64 z, .int .i64 t] 57)) (.cells #[.int .i64 0, .int .i64 0, .int .i64 0, .int .i64 0] 57)
  have HA := hid (((NBox.new w [a, b, c, d] #[.int .i64 a, .int .i64 b, .int .i64 c, .int .i64 d] 57 rfl).later L2).later L3)
  have HB := hid ((NBox.new (w.alloc (.cells #[.int .i64 a, .int .i64 b, .int .i64 c, .int .i64 d] 57)) [x, y, z, t] #[.int .i64 x, .int .i64 y, .int .i64 z, .int .i64 t] 57 rfl).later L3)
  have HR := hid (NBox.new ((w.alloc (.cells #[.int .i64 a, .int .i64 b, .int .i64 c, .int .i64 d] 57)).alloc (.cells #[.int .i64 x, .int .i64 y, .int .i64 z, .int .i64 t] 57)) [0, 0, 0, 0] #[.int .i64 0, .int .i64 0, .int .i64 0, .int .i64 0] 57 rfl)
  have HL := hid ((L1.trans L2).trans L3)
  simp only [World.size_alloc] at HB HR
  clear L1 L2 L3 ha hb hc hd hx hy hz ht
  obtain ⟨W, hW⟩ : ∃ W, ((w.alloc (.cells #[.int .i64 a, .int .i64 b, .int .i64 c, .int .i64 d] 57)).alloc (.cells #[.int .i64 x, .int .i64 y, .int .i64 z, .int .i64 t] 57)).alloc (.cells #[.int .i64 0, .int .i64 0, .int .i64 0, .int .i64 0] 57) = W := ⟨_, rfl⟩
  rw [hW] at HA HB HR HL
  have c0 := (HA.out 0 a rfl).1
  have d0 := (HB.out 0 x rfl).1
  have r0 := (HR.out 0 0 rfl).1
  have f0 := (HR.out 0 0 rfl).2
  have c1 := (HA.out 1 b rfl).1
  have d1 := (HB.out 1 y rfl).1
  have r1 := (HR.out 1 0 rfl).1
  have f1 := (HR.out 1 0 rfl).2
  have c2 := (HA.out 2 c rfl).1
  have d2 := (HB.out 2 z rfl).1
  have r2 := (HR.out 2 0 rfl).1
  have f2 := (HR.out 2 0 rfl).2
  have c3 := (HA.out 3 d rfl).1
  have d3 := (HB.out 3 t rfl).1
  have r3 := (HR.out 3 0 rfl).1
  have f3 := (HR.out 3 0 rfl).2
  go_enter Try.func74, Try.ntmps74
  go_wp2_with fail
  refine bodyPost_ret (v := .agg #[.int .i64 (a * x + b * y + c * z + d * t), .int .i64 (a * y - b * x + c * t - d * z), .int .i64 (a * z - c * x + d * y - b * t), .int .i64 (a * t - d * x + b * z - c * y)]) ?_ rfl ?_
  · rw [results_cellN rfl]
    go_simp
  · exact ⟨rfl, (Below.setCell (p := ⟨w.heap.size + 1 + 1, 3, none⟩) (Below.setCell (p := ⟨w.heap.size + 1 + 1, 2, none⟩) (Below.setCell (p := ⟨w.heap.size + 1 + 1, 1, none⟩) (Below.setCell (p := ⟨w.heap.size + 1 + 1, 0, none⟩) HL.out (by simp only; omega) _) (by simp only; omega) _) (by simp only; omega) _) (by simp only; omega) _)⟩
end Go.Proofs.Ytofmmegpadojlaa
