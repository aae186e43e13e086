/- Circles: TurnCircle, FlipCircle, ShiftCircle, ReflectCircle (the program). -/
import Derived.Test.YtljikcajfmnnmaaCiN
import Derived.Test.YtljikcajfmnnmaaCiV
namespace Go.Proofs.Ytljikcajfmnnmaa
open Go.RowKit

theorem me_T (w : World) : (method 179 46 (.agg #[]) "loop.example/g01122/impl.imageOf").run Try.prog w = .ok (54, .agg #[]) w := by kernel_rfl
theorem me_F (w : World) : (method 179 47 (.agg #[]) "loop.example/g01122/impl.imageOf").run Try.prog w = .ok (55, .agg #[]) w := by kernel_rfl
theorem me_S (w : World) (u v : Int) : (method 179 50 (.agg #[.int .i64 u, .int .i64 v]) "loop.example/g01122/impl.imageOf").run Try.prog w = .ok (56, .agg #[.int .i64 u, .int .i64 v]) w := by kernel_rfl
theorem me_R (w : World) (p q r s : Int) : (method 179 53 (.agg #[.int .i64 p, .int .i64 q, .int .i64 r, .int .i64 s]) "loop.example/g01122/impl.imageOf").run Try.prog w = .ok (57, .agg #[.int .i64 p, .int .i64 q, .int .i64 r, .int .i64 s]) w := by kernel_rfl

theorem within_neg {z : Int} : within (-1000000) 1000000 (-z) = within (-1000000) 1000000 z := by
  unfold within
  rw [Bool.eq_iff_iff]
  simp only [Bool.and_eq_true, decide_eq_true_eq]
  omega
theorem ciB_turn (a b x y : Int) : ciB (a, b, -y, x) = ciB (a, b, x, y) := by
  unfold ciB ciIn
  simp only [List.all_cons, List.all_nil, within_neg, Int.neg_mul_neg]
  rw [Int.add_comm (y * y)]
  congr 1
  ac_rfl
theorem ciB_flip (a b x y : Int) : ciB (a, b, -x, y) = ciB (a, b, x, y) := by
  unfold ciB ciIn
  simp only [List.all_cons, List.all_nil, within_neg, Int.neg_mul_neg]
def turnAns (c : Ci4) : Option Ci4 := if ciB c = true then some (c.1, c.2.1, -c.2.2.2, c.2.2.1) else none
def flipAns (c : Ci4) : Option Ci4 := if ciB c = true then some (c.1, c.2.1, -c.2.2.1, c.2.2.2) else none
def shiftAns (c : Ci4) (u v : Int) : Option Ci4 := if ciB c = true ∧ within (-1000) 1000 u = true ∧ within (-1000) 1000 v = true ∧ ciB (shOf c u v) = true then some (shOf c u v) else none
def reflAns (c d : Ci4) : Option Ci4 := if ciB c = true ∧ ciB d = true ∧ ciB (plusOf c d (-(ciTw c d))) = true then some (plusOf c d (-(ciTw c d))) else none
theorem ci_of {a b x y : Int} (h : ciB (a, b, x, y) = true) : (-1000000 ≤ a ∧ a ≤ 1000000) ∧ (-1000000 ≤ b ∧ b ≤ 1000000) ∧ (-1000000 ≤ x ∧ x ≤ 1000000) ∧ (-1000000 ≤ y ∧ y ≤ 1000000) := ciIn_bd (ciB_in h)

theorem movedT (a b x y : Int) (w : World) : Calls Try.prog 31 #[.iface 46 (.agg #[]), .agg #[.int .i64 a, .int .i64 b, .int .i64 x, .int .i64 y]] w fun e w' => CiAns w (turnAns (a, b, x, y)) e w' := by
  refine movedBy_gen _ _ _ true a b x y a b (-y) x _ w (fun w0 => isMovementT_any w0) (fun _ hc w0 => turnImage_any a b x y w0 (ci_of hc).2.2.2) me_T Try.call54 ?_ ?_ ?_ ?_
  · intro h; unfold turnAns; rw [h]; simp
  · intro h; cases h
  · intro h; rw [ciB_turn] at h; unfold turnAns; rw [h]; simp
  · intro h _ _; unfold turnAns; rw [h]; simp
theorem movedF (a b x y : Int) (w : World) : Calls Try.prog 31 #[.iface 47 (.agg #[]), .agg #[.int .i64 a, .int .i64 b, .int .i64 x, .int .i64 y]] w fun e w' => CiAns w (flipAns (a, b, x, y)) e w' := by
  refine movedBy_gen _ _ _ true a b x y a b (-x) y _ w (fun w0 => isMovementF_any w0) (fun _ hc w0 => flipImage_any a b x y w0 (ci_of hc).2.2.1) me_F Try.call55 ?_ ?_ ?_ ?_
  · intro h; unfold flipAns; rw [h]; simp
  · intro h; cases h
  · intro h; rw [ciB_flip] at h; unfold flipAns; rw [h]; simp
  · intro h _ _; unfold flipAns; rw [h]; simp
theorem within_th {u : Int} (h : within (-1000) 1000 u = true) : -1000 ≤ u ∧ u ≤ 1000 := by simpa [within] using h
theorem movedS (u v a b x y : Int) (w : World) : Calls Try.prog 31 #[.iface 50 (.agg #[.int .i64 u, .int .i64 v]), .agg #[.int .i64 a, .int .i64 b, .int .i64 x, .int .i64 y]] w fun e w' => CiAns w (shiftAns (a, b, x, y) u v) e w' := by
  obtain ⟨R, hR⟩ : ∃ R, shOf (a, b, x, y) u v = R := ⟨_, rfl⟩
  obtain ⟨ra, rb, rx, ry⟩ := R
  refine movedBy_gen _ _ _ _ a b x y ra rb rx ry _ w (fun w0 => isMovementS_any u v w0) (fun hB hc w0 => ?_) (fun w0 => me_S w0 u v) Try.call56 ?_ ?_ ?_ ?_
  · rw [Bool.and_eq_true] at hB
    have := shiftImage_any u v a b x y w0 (within_th hB.1) (within_th hB.2) (ciB_in hc)
    rwa [hR] at this
  · intro h; unfold shiftAns; rw [h]; simp
  · intro h; unfold shiftAns; rw [if_neg]; rintro ⟨_, h1, h2, _⟩; rw [h1, h2] at h; cases h
  · intro h; unfold shiftAns; rw [hR, h]; simp
  · intro h1 h2 h3; rw [Bool.and_eq_true] at h2; unfold shiftAns; rw [hR, if_pos ⟨h1, h2.1, h2.2, h3⟩]
theorem movedR (p q r s a b x y : Int) (w : World) : Calls Try.prog 31 #[.iface 53 (.agg #[.int .i64 p, .int .i64 q, .int .i64 r, .int .i64 s]), .agg #[.int .i64 a, .int .i64 b, .int .i64 x, .int .i64 y]] w fun e w' => CiAns w (reflAns (a, b, x, y) (p, q, r, s)) e w' := by
  obtain ⟨R, hR⟩ : ∃ R, plusOf (a, b, x, y) (p, q, r, s) (-(ciTw (a, b, x, y) (p, q, r, s))) = R := ⟨_, rfl⟩
  obtain ⟨ra, rb, rx, ry⟩ := R
  refine movedBy_gen _ _ _ _ a b x y ra rb rx ry _ w (fun w0 => isMovementR_any p q r s w0) (fun hB hc w0 => ?_) (fun w0 => me_R w0 p q r s) Try.call57 ?_ ?_ ?_ ?_
  · have := reflImage_any a b x y p q r s w0 (ciB_in hc) (ciB_in hB)
    rwa [hR] at this
  · intro h; unfold reflAns; rw [h]; simp
  · intro h; unfold reflAns; rw [h]; simp
  · intro h; unfold reflAns; rw [hR, h]; simp
  · intro h1 h2 h3; unfold reflAns; rw [hR, if_pos ⟨h1, h2, h3⟩]

set_option maxRecDepth 20000 in
set_option maxHeartbeats 2000000 in
theorem turnP_any (a b x y : Int) (w : World) :
    Calls Try.prog 18 #[.agg #[.int .i64 a, .int .i64 b, .int .i64 x, .int .i64 y]] w fun e w' => CiAns w (turnAns (a, b, x, y)) e w' := by
  have HMV := hid (fun w0 => movedT a b x y w0)
  obtain ⟨o, ho⟩ : ∃ o, turnAns (a, b, x, y) = o := ⟨_, rfl⟩
  rw [ho] at HMV ⊢
  clear ho
  obtain ⟨R, hR⟩ : ∃ R, o.getD c00 = R := ⟨_, rfl⟩
  obtain ⟨ra, rb, rx, ry⟩ := R
  unfold CiAns at HMV ⊢
  rw [hR] at HMV ⊢
  clear hR
  have HL := hid ((Later.alloc w (.cells #[.int .i64 a, .int .i64 b, .int .i64 x, .int .i64 y] 25)).trans (Later.alloc _ (.cells #[.int .i64 0, .int .i64 0, .int .i64 0, .int .i64 0] 25)))
  have HC := hid ((CBox.new w a b x y 25).later (Later.alloc _ (.cells #[.int .i64 0, .int .i64 0, .int .i64 0, .int .i64 0] 25)))
  have HD : Hid (CBox ((w.alloc (.cells #[.int .i64 a, .int .i64 b, .int .i64 x, .int .i64 y] 25)).alloc (.cells #[.int .i64 0, .int .i64 0, .int .i64 0, .int .i64 0] 25)) (w.heap.size + 1) 0 0 0 0) := hid (by have := CBox.new (w.alloc (.cells #[.int .i64 a, .int .i64 b, .int .i64 x, .int .i64 y] 25)) 0 0 0 0 25; simpa using this)
  have HF : Hid (∀ j, ((w.alloc (.cells #[.int .i64 a, .int .i64 b, .int .i64 x, .int .i64 y] 25)).alloc (.cells #[.int .i64 0, .int .i64 0, .int .i64 0, .int .i64 0] 25)).frozen? ⟨w.heap.size + 1, j, none⟩ = false) := hid (fun j => by simp [go_sem])
  go_enter Try.func18, Try.ntmps18
  go_wp2_with fail
  generalize (w.alloc (.cells #[.int .i64 a, .int .i64 b, .int .i64 x, .int .i64 y] 25)).alloc (.cells #[.int .i64 0, .int .i64 0, .int .i64 0, .int .i64 0] 25) = w1 at HL HC HD HF ⊢
  obtain ⟨c0, c1, c2, c3⟩ := HC.out
  refine (HMV.out _).mono ?_
  rintro e w2 ⟨rfl, hL2⟩
  obtain ⟨d0, d1, d2, d3⟩ := HD.out.later hL2
  have f0 := hL2.frozen HD.out.1 (HF.out 0)
  have f1 := hL2.frozen HD.out.2.1 (HF.out 1)
  have f2 := hL2.frozen HD.out.2.2.1 (HF.out 2)
  have f3 := hL2.frozen HD.out.2.2.2 (HF.out 3)
  have HL2 := hid (HL.out.trans hL2)
  have HD2 := hid (HD.out.later hL2)
  clear hL2
  go_wp2_with fail
  have HLz : Hid (Later w ((((w2.setCell ⟨w.heap.size + 1, 0, none⟩ (.int .i64 ra)).setCell ⟨w.heap.size + 1, 1, none⟩ (.int .i64 rb)).setCell ⟨w.heap.size + 1, 2, none⟩ (.int .i64 rx)).setCell ⟨w.heap.size + 1, 3, none⟩ (.int .i64 ry))) := hid (set4_later HL2.out (by omega) 0 _ _ _ _)
  have HCz := hid (HD2.out.set ra rb rx ry)
  generalize ((((w2.setCell ⟨w.heap.size + 1, 0, none⟩ (.int .i64 ra)).setCell ⟨w.heap.size + 1, 1, none⟩ (.int .i64 rb)).setCell ⟨w.heap.size + 1, 2, none⟩ (.int .i64 rx)).setCell ⟨w.heap.size + 1, 3, none⟩ (.int .i64 ry)) = wz at HLz HCz ⊢
  obtain ⟨g0, g1, g2, g3⟩ := HCz.out
  refine bodyPost_ret (v := .tuple #[.agg #[.int .i64 ra, .int .i64 rb, .int .i64 rx, .int .i64 ry], .bool o.isSome]) ?_ rfl ⟨rfl, HLz.out⟩
  rw [results_cell_tmp rfl]
  go_simp

set_option maxRecDepth 20000 in
set_option maxHeartbeats 2000000 in
theorem flipP_any (a b x y : Int) (w : World) :
    Calls Try.prog 21 #[.agg #[.int .i64 a, .int .i64 b, .int .i64 x, .int .i64 y]] w fun e w' => CiAns w (flipAns (a, b, x, y)) e w' := by
  have HMV := hid (fun w0 => movedF a b x y w0)
  obtain ⟨o, ho⟩ : ∃ o, flipAns (a, b, x, y) = o := ⟨_, rfl⟩
  rw [ho] at HMV ⊢
  clear ho
  obtain ⟨R, hR⟩ : ∃ R, o.getD c00 = R := ⟨_, rfl⟩
  obtain ⟨ra, rb, rx, ry⟩ := R
  unfold CiAns at HMV ⊢
  rw [hR] at HMV ⊢
  clear hR
  have HL := hid ((Later.alloc w (.cells #[.int .i64 a, .int .i64 b, .int .i64 x, .int .i64 y] 25)).trans (Later.alloc _ (.cells #[.int .i64 0, .int .i64 0, .int .i64 0, .int .i64 0] 25)))
  have HC := hid ((CBox.new w a b x y 25).later (Later.alloc _ (.cells #[.int .i64 0, .int .i64 0, .int .i64 0, .int .i64 0] 25)))
  have HD : Hid (CBox ((w.alloc (.cells #[.int .i64 a, .int .i64 b, .int .i64 x, .int .i64 y] 25)).alloc (.cells #[.int .i64 0, .int .i64 0, .int .i64 0, .int .i64 0] 25)) (w.heap.size + 1) 0 0 0 0) := hid (by have := CBox.new (w.alloc (.cells #[.int .i64 a, .int .i64 b, .int .i64 x, .int .i64 y] 25)) 0 0 0 0 25; simpa using this)
  have HF : Hid (∀ j, ((w.alloc (.cells #[.int .i64 a, .int .i64 b, .int .i64 x, .int .i64 y] 25)).alloc (.cells #[.int .i64 0, .int .i64 0, .int .i64 0, .int .i64 0] 25)).frozen? ⟨w.heap.size + 1, j, none⟩ = false) := hid (fun j => by simp [go_sem])
  go_enter Try.func21, Try.ntmps21
  go_wp2_with fail
  generalize (w.alloc (.cells #[.int .i64 a, .int .i64 b, .int .i64 x, .int .i64 y] 25)).alloc (.cells #[.int .i64 0, .int .i64 0, .int .i64 0, .int .i64 0] 25) = w1 at HL HC HD HF ⊢
  obtain ⟨c0, c1, c2, c3⟩ := HC.out
  refine (HMV.out _).mono ?_
  rintro e w2 ⟨rfl, hL2⟩
  obtain ⟨d0, d1, d2, d3⟩ := HD.out.later hL2
  have f0 := hL2.frozen HD.out.1 (HF.out 0)
  have f1 := hL2.frozen HD.out.2.1 (HF.out 1)
  have f2 := hL2.frozen HD.out.2.2.1 (HF.out 2)
  have f3 := hL2.frozen HD.out.2.2.2 (HF.out 3)
  have HL2 := hid (HL.out.trans hL2)
  have HD2 := hid (HD.out.later hL2)
  clear hL2
  go_wp2_with fail
  have HLz : Hid (Later w ((((w2.setCell ⟨w.heap.size + 1, 0, none⟩ (.int .i64 ra)).setCell ⟨w.heap.size + 1, 1, none⟩ (.int .i64 rb)).setCell ⟨w.heap.size + 1, 2, none⟩ (.int .i64 rx)).setCell ⟨w.heap.size + 1, 3, none⟩ (.int .i64 ry))) := hid (set4_later HL2.out (by omega) 0 _ _ _ _)
  have HCz := hid (HD2.out.set ra rb rx ry)
  generalize ((((w2.setCell ⟨w.heap.size + 1, 0, none⟩ (.int .i64 ra)).setCell ⟨w.heap.size + 1, 1, none⟩ (.int .i64 rb)).setCell ⟨w.heap.size + 1, 2, none⟩ (.int .i64 rx)).setCell ⟨w.heap.size + 1, 3, none⟩ (.int .i64 ry)) = wz at HLz HCz ⊢
  obtain ⟨g0, g1, g2, g3⟩ := HCz.out
  refine bodyPost_ret (v := .tuple #[.agg #[.int .i64 ra, .int .i64 rb, .int .i64 rx, .int .i64 ry], .bool o.isSome]) ?_ rfl ⟨rfl, HLz.out⟩
  rw [results_cell_tmp rfl]
  go_simp

set_option maxRecDepth 20000 in
set_option maxHeartbeats 2000000 in
theorem shiftP_any (a b x y u v : Int) (w : World) :
    Calls Try.prog 23 #[.agg #[.int .i64 a, .int .i64 b, .int .i64 x, .int .i64 y], .int .i64 u, .int .i64 v] w fun e w' => CiAns w (shiftAns (a, b, x, y) u v) e w' := by
  have HMV := hid (fun w0 => movedS u v a b x y w0)
  obtain ⟨o, ho⟩ : ∃ o, shiftAns (a, b, x, y) u v = o := ⟨_, rfl⟩
  rw [ho] at HMV ⊢
  clear ho
  obtain ⟨R, hR⟩ : ∃ R, o.getD c00 = R := ⟨_, rfl⟩
  obtain ⟨ra, rb, rx, ry⟩ := R
  unfold CiAns at HMV ⊢
  rw [hR] at HMV ⊢
  clear hR
  have HL := hid ((Later.alloc w (.cells #[.int .i64 a, .int .i64 b, .int .i64 x, .int .i64 y] 25)).trans (Later.alloc _ (.cells #[.int .i64 0, .int .i64 0, .int .i64 0, .int .i64 0] 25)))
  have HC := hid ((CBox.new w a b x y 25).later (Later.alloc _ (.cells #[.int .i64 0, .int .i64 0, .int .i64 0, .int .i64 0] 25)))
  have HD : Hid (CBox ((w.alloc (.cells #[.int .i64 a, .int .i64 b, .int .i64 x, .int .i64 y] 25)).alloc (.cells #[.int .i64 0, .int .i64 0, .int .i64 0, .int .i64 0] 25)) (w.heap.size + 1) 0 0 0 0) := hid (by have := CBox.new (w.alloc (.cells #[.int .i64 a, .int .i64 b, .int .i64 x, .int .i64 y] 25)) 0 0 0 0 25; simpa using this)
  have HF : Hid (∀ j, ((w.alloc (.cells #[.int .i64 a, .int .i64 b, .int .i64 x, .int .i64 y] 25)).alloc (.cells #[.int .i64 0, .int .i64 0, .int .i64 0, .int .i64 0] 25)).frozen? ⟨w.heap.size + 1, j, none⟩ = false) := hid (fun j => by simp [go_sem])
  go_enter Try.func23, Try.ntmps23
  go_wp2_with fail
  generalize (w.alloc (.cells #[.int .i64 a, .int .i64 b, .int .i64 x, .int .i64 y] 25)).alloc (.cells #[.int .i64 0, .int .i64 0, .int .i64 0, .int .i64 0] 25) = w1 at HL HC HD HF ⊢
  obtain ⟨c0, c1, c2, c3⟩ := HC.out
  refine (HMV.out _).mono ?_
  rintro e w2 ⟨rfl, hL2⟩
  obtain ⟨d0, d1, d2, d3⟩ := HD.out.later hL2
  have f0 := hL2.frozen HD.out.1 (HF.out 0)
  have f1 := hL2.frozen HD.out.2.1 (HF.out 1)
  have f2 := hL2.frozen HD.out.2.2.1 (HF.out 2)
  have f3 := hL2.frozen HD.out.2.2.2 (HF.out 3)
  have HL2 := hid (HL.out.trans hL2)
  have HD2 := hid (HD.out.later hL2)
  clear hL2
  go_wp2_with fail
  have HLz : Hid (Later w ((((w2.setCell ⟨w.heap.size + 1, 0, none⟩ (.int .i64 ra)).setCell ⟨w.heap.size + 1, 1, none⟩ (.int .i64 rb)).setCell ⟨w.heap.size + 1, 2, none⟩ (.int .i64 rx)).setCell ⟨w.heap.size + 1, 3, none⟩ (.int .i64 ry))) := hid (set4_later HL2.out (by omega) 0 _ _ _ _)
  have HCz := hid (HD2.out.set ra rb rx ry)
  generalize ((((w2.setCell ⟨w.heap.size + 1, 0, none⟩ (.int .i64 ra)).setCell ⟨w.heap.size + 1, 1, none⟩ (.int .i64 rb)).setCell ⟨w.heap.size + 1, 2, none⟩ (.int .i64 rx)).setCell ⟨w.heap.size + 1, 3, none⟩ (.int .i64 ry)) = wz at HLz HCz ⊢
  obtain ⟨g0, g1, g2, g3⟩ := HCz.out
  refine bodyPost_ret (v := .tuple #[.agg #[.int .i64 ra, .int .i64 rb, .int .i64 rx, .int .i64 ry], .bool o.isSome]) ?_ rfl ⟨rfl, HLz.out⟩
  rw [results_cell_tmp rfl]
  go_simp

set_option maxRecDepth 20000 in
set_option maxHeartbeats 2000000 in
theorem reflP_any (a b x y p q r s : Int) (w : World) :
    Calls Try.prog 25 #[.agg #[.int .i64 a, .int .i64 b, .int .i64 x, .int .i64 y], .agg #[.int .i64 p, .int .i64 q, .int .i64 r, .int .i64 s]] w fun e w' => CiAns w (reflAns (a, b, x, y) (p, q, r, s)) e w' := by
  have HMV := hid (fun w0 => movedR p q r s a b x y w0)
  obtain ⟨o, ho⟩ : ∃ o, reflAns (a, b, x, y) (p, q, r, s) = o := ⟨_, rfl⟩
  rw [ho] at HMV ⊢
  clear ho
  obtain ⟨R, hR⟩ : ∃ R, o.getD c00 = R := ⟨_, rfl⟩
  obtain ⟨ra, rb, rx, ry⟩ := R
  unfold CiAns at HMV ⊢
  rw [hR] at HMV ⊢
  clear hR
  have HL := hid (((Later.alloc w (.cells #[.int .i64 a, .int .i64 b, .int .i64 x, .int .i64 y] 25)).trans (Later.alloc _ (.cells #[.int .i64 p, .int .i64 q, .int .i64 r, .int .i64 s] 25))).trans (Later.alloc _ (.cells #[.int .i64 0, .int .i64 0, .int .i64 0, .int .i64 0] 25)))
  have HC := hid (((CBox.new w a b x y 25).later (Later.alloc _ (.cells #[.int .i64 p, .int .i64 q, .int .i64 r, .int .i64 s] 25))).later (Later.alloc _ (.cells #[.int .i64 0, .int .i64 0, .int .i64 0, .int .i64 0] 25)))
  have HD : Hid (CBox (((w.alloc (.cells #[.int .i64 a, .int .i64 b, .int .i64 x, .int .i64 y] 25)).alloc (.cells #[.int .i64 p, .int .i64 q, .int .i64 r, .int .i64 s] 25)).alloc (.cells #[.int .i64 0, .int .i64 0, .int .i64 0, .int .i64 0] 25)) (w.heap.size + 1 + 1) 0 0 0 0) := hid (by have := CBox.new ((w.alloc (.cells #[.int .i64 a, .int .i64 b, .int .i64 x, .int .i64 y] 25)).alloc (.cells #[.int .i64 p, .int .i64 q, .int .i64 r, .int .i64 s] 25)) 0 0 0 0 25; simpa using this)
  have HF : Hid (∀ j, (((w.alloc (.cells #[.int .i64 a, .int .i64 b, .int .i64 x, .int .i64 y] 25)).alloc (.cells #[.int .i64 p, .int .i64 q, .int .i64 r, .int .i64 s] 25)).alloc (.cells #[.int .i64 0, .int .i64 0, .int .i64 0, .int .i64 0] 25)).frozen? ⟨w.heap.size + 1 + 1, j, none⟩ = false) := hid (fun j => by simp [go_sem])
  have HP := hid (show CBox (((w.alloc (.cells #[.int .i64 a, .int .i64 b, .int .i64 x, .int .i64 y] 25)).alloc (.cells #[.int .i64 p, .int .i64 q, .int .i64 r, .int .i64 s] 25)).alloc (.cells #[.int .i64 0, .int .i64 0, .int .i64 0, .int .i64 0] 25)) (w.heap.size + 1) p q r s from by have := (CBox.new (w.alloc (.cells #[.int .i64 a, .int .i64 b, .int .i64 x, .int .i64 y] 25)) p q r s 25).later (Later.alloc _ (.cells #[.int .i64 0, .int .i64 0, .int .i64 0, .int .i64 0] 25)); simpa using this)
  go_enter Try.func25, Try.ntmps25
  go_wp2_with fail
  generalize ((w.alloc (.cells #[.int .i64 a, .int .i64 b, .int .i64 x, .int .i64 y] 25)).alloc (.cells #[.int .i64 p, .int .i64 q, .int .i64 r, .int .i64 s] 25)).alloc (.cells #[.int .i64 0, .int .i64 0, .int .i64 0, .int .i64 0] 25) = w1 at HL HC HD HF HP ⊢
  obtain ⟨c0, c1, c2, c3⟩ := HC.out
  obtain ⟨p0, p1, p2, p3⟩ := HP.out
  go_wp2_with fail
  refine (HMV.out _).mono ?_
  rintro e w2 ⟨rfl, hL2⟩
  obtain ⟨d0, d1, d2, d3⟩ := HD.out.later hL2
  have f0 := hL2.frozen HD.out.1 (HF.out 0)
  have f1 := hL2.frozen HD.out.2.1 (HF.out 1)
  have f2 := hL2.frozen HD.out.2.2.1 (HF.out 2)
  have f3 := hL2.frozen HD.out.2.2.2 (HF.out 3)
  have HL2 := hid (HL.out.trans hL2)
  have HD2 := hid (HD.out.later hL2)
  clear hL2
  go_wp2_with fail
  have HLz : Hid (Later w ((((w2.setCell ⟨w.heap.size + 1 + 1, 0, none⟩ (.int .i64 ra)).setCell ⟨w.heap.size + 1 + 1, 1, none⟩ (.int .i64 rb)).setCell ⟨w.heap.size + 1 + 1, 2, none⟩ (.int .i64 rx)).setCell ⟨w.heap.size + 1 + 1, 3, none⟩ (.int .i64 ry))) := hid (set4_later HL2.out (by omega) 0 _ _ _ _)
  have HCz := hid (HD2.out.set ra rb rx ry)
  generalize ((((w2.setCell ⟨w.heap.size + 1 + 1, 0, none⟩ (.int .i64 ra)).setCell ⟨w.heap.size + 1 + 1, 1, none⟩ (.int .i64 rb)).setCell ⟨w.heap.size + 1 + 1, 2, none⟩ (.int .i64 rx)).setCell ⟨w.heap.size + 1 + 1, 3, none⟩ (.int .i64 ry)) = wz at HLz HCz ⊢
  obtain ⟨g0, g1, g2, g3⟩ := HCz.out
  refine bodyPost_ret (v := .tuple #[.agg #[.int .i64 ra, .int .i64 rb, .int .i64 rx, .int .i64 ry], .bool o.isSome]) ?_ rfl ⟨rfl, HLz.out⟩
  rw [results_cell_tmp rfl]
  go_simp
end Go.Proofs.Ytljikcajfmnnmaa
