/- Four curvatures: isRoot, quadOf, IsQuad, IsRoot, DownSwap (the program). -/
import Derived.Test.YtoaopmafokoaoaaQdC
import Derived.Test.YtoaopmafokoaoaaFoAp
namespace Go.Proofs.Ytoaopmafokoaoaa
open Go.RowKit

/-- '==' at two quads. -/
theorem eqQ (x y z t a b c d : Int) (w : World) : (Op.equalIn 10000 112 (.agg #[.int .i64 x, .int .i64 y, .int .i64 z, .int .i64 t]) (.agg #[.int .i64 a, .int .i64 b, .int .i64 c, .int .i64 d])).run Try.prog w = .ok (x == a && (y == b && (z == c && t == d))) w := by
  obtain ⟨i0, hi, hz0, hz1, hz2⟩ := info_parts Try.infoInt
  have hc : Try.prog.cellsOf 3 = 1 := by kernel_rfl
  have u3 := Try.underlying3
  have a3 := Try.isAgg3
  have z3 := Try.sizeOf3
  rw [show (10000 : Nat) = 9999 + 1 from rfl, run_equalIn_array w 9999 _ _ Try.underlying112 hi, hc, show (9999 : Nat) = 9998 + 1 from rfl]
  simp only [List.range_succ, List.range_zero, List.nil_append, List.cons_append]
  simp only [Op.eqItems]
  go_simp
  by_cases h1 : x = a <;> by_cases h2 : y = b <;> by_cases h3 : z = c <;> by_cases h4 : t = d <;> simp [h1, h2, h3, h4]
theorem lowQ_ne {a b c d : Int} (h : QD a b c d) (hl : lastQ [a, b, c, d] = false) {p q r s : Int} (e : lowQ [a, b, c, d] = [p, q, r, s]) : (p == a && (q == b && (r == c && s == d))) = false := by
  rw [lowQ_next hl] at e
  have h2 := (nextQ_good ((apB_iff a b c d).2 h) hl).2
  rw [e, sum4, sum4] at h2
  cases hb : (p == a && (q == b && (r == c && s == d)))
  · rfl
  · simp at hb; omega
theorem lowQ_eq {a b c d : Int} (hl : lastQ [a, b, c, d] = true) {p q r s : Int} (e : lowQ [a, b, c, d] = [p, q, r, s]) : (p == a && (q == b && (r == c && s == d))) = true := by
  rw [lowQ_last hl] at e
  simp only [List.cons.injEq, and_true] at e
  obtain ⟨rfl, rfl, rfl, rfl⟩ := e
  simp
def NoQ (w : World) (e : Ending) (w' : World) : Prop := e = .returned (.tuple #[.agg #[.int .i64 0, .int .i64 0, .int .i64 0, .int .i64 0], .bool false]) ∧ Later w w'
def YesQ (w : World) (a b c d : Int) (e : Ending) (w' : World) : Prop := e = .returned (.tuple #[.agg #[.int .i64 a, .int .i64 b, .int .i64 c, .int .i64 d], .bool true]) ∧ Later w w'
theorem wrapQd {z : Int} (h : -9000000000000000000 ≤ z ∧ z ≤ 9000000000000000000) : wrap64 z = z := IntWalk.wrap64_in _ (by omega)
theorem dot4 {a b c d : Int} (ha : -100000 ≤ a ∧ a ≤ 100000) (hb : -100000 ≤ b ∧ b ≤ 100000) (hc : -100000 ≤ c ∧ c ≤ 100000) (hd : -100000 ≤ d ∧ d ≤ 100000) : dotW [a, b, c, d] [a, b, c, d] = qsq [a, b, c, d] := by
  have h1 := sqQ_bd ha
  have h2 := sqQ_bd hb
  have h3 := sqQ_bd hc
  have h4 := sqQ_bd hd
  rw [qsq4]
  unfold dotW
  simp only [List.length_cons, List.length_nil, wsum, List.getD_cons_zero, List.getD_cons_succ]
  rw [wrapQd (z := a * a) (by omega), wrapQd (z := b * b) (by omega), wrapQd (z := c * c) (by omega), wrapQd (z := d * d) (by omega), wrapQd (z := 0 + a * a) (by omega), wrapQd (z := 0 + a * a + b * b) (by omega), wrapQd (z := 0 + a * a + b * b + c * c) (by omega), wrapQd (z := 0 + a * a + b * b + c * c + d * d) (by omega)]
  omega
theorem dotQ_any (v : Value) (zs : List Int) (w : World) (h4 : zs.length = 4) (hw : zs.all (within (-100000) 100000) = true) (h : Ints w v zs) :
    Calls Try.prog 128 #[v, v] w fun e w' => e = .returned (.int .i64 (qsq zs)) ∧ Later w w' := by
  refine (dot_any v v zs zs w (Nat.le_refl _) h h).mono ?_
  rintro e w' ⟨rfl, hL⟩
  obtain ⟨a, b, c, d, rfl⟩ := len4 h4
  have hb := withinQ hw
  refine ⟨?_, hL⟩
  rw [dot4 (hb a (by simp)) (hb b (by simp)) (hb c (by simp)) (hb d (by simp))]
set_option maxRecDepth 20000 in
set_option maxHeartbeats 4000000 in
theorem quadOf_far (v : Value) (zs : List Int) (w : World) (hn : zs.length ≠ 4 ∨ zs.all (within (-100000) 100000) = false) (h : Ints w v zs) :
    Calls Try.prog 92 #[v] w fun e w' => NoQ w e w' := by
  have hA := Later.alloc w (.cells #[.int .i64 0, .int .i64 0, .int .i64 0, .int .i64 0] 112)
  have HR := hid (QBox.new w 0 0 0 0)
  have H1 := hid (h.later hA)
  have HL := hid hA
  obtain ⟨p, cap, rfl, hl, _⟩ := id h
  have HN := hid hn
  clear hn
  obtain ⟨d0, d1, d2, d3, f0, f1, f2, f3⟩ := HR.out
  by_cases h4 : zs.length = 4
  · have hW : zs.all (within (-100000) 100000) = false := by rcases HN.out with h | h; exact absurd h4 h; exact h
    have HW := hid hW
    have hne : ((zs.length : Int) != 4) = false := by simp [h4]
    clear h hA h4 hW
    go_enter Try.func92, Try.ntmps92
    go_wp2_with fail
    generalize w.alloc (.cells #[.int .i64 0, .int .i64 0, .int .i64 0, .int .i64 0] 112) = w1 at *
    refine (areWithin_as _ zs 100000 _ _ (by omega) HW.out H1.out).mono ?_
    rintro e w' ⟨rfl, rfl⟩
    go_wp2_with fail
    refine bodyPost_ret (v := .tuple #[.agg #[.int .i64 0, .int .i64 0, .int .i64 0, .int .i64 0], .bool false]) ?_ rfl ⟨rfl, by first | exact HL.out | exact setQ_later HL.out (Nat.le_refl _) 0 0 0 0⟩
    rw [results_cell_tmp rfl]
    go_simp
  · have hne : ((zs.length : Int) != 4) = true := by simp; omega
    clear h hA h4
    go_enter Try.func92, Try.ntmps92
    go_wp2_with fail
    generalize w.alloc (.cells #[.int .i64 0, .int .i64 0, .int .i64 0, .int .i64 0] 112) = w1 at *
    refine bodyPost_ret (v := .tuple #[.agg #[.int .i64 0, .int .i64 0, .int .i64 0, .int .i64 0], .bool false]) ?_ rfl ⟨rfl, by first | exact HL.out | exact setQ_later HL.out (Nat.le_refl _) 0 0 0 0⟩
    rw [results_cell_tmp rfl]
    go_simp
set_option maxRecDepth 20000 in
set_option maxHeartbeats 4000000 in
theorem quadOf_at (v : Value) (a b c d : Int) (w : World) (hw : [a, b, c, d].all (within (-100000) 100000) = true) (h : Ints w v [a, b, c, d]) :
    Calls Try.prog 92 #[v] w fun e w' => (apB [a, b, c, d] = true ∧ YesQ w a b c d e w') ∨ (apB [a, b, c, d] = false ∧ NoQ w e w') := by
  have hA := Later.alloc w (.cells #[.int .i64 0, .int .i64 0, .int .i64 0, .int .i64 0] 112)
  have HR := hid (QBox.new w 0 0 0 0)
  have H1 := hid (h.later hA)
  have HL := hid hA
  obtain ⟨ad, cap, rfl, k0, k1, k2, k3⟩ := (h.later hA).four
  have hb := withinQ hw
  have HM : Hid (Md a b c d) := hid (by have h1 := hb a (by simp); have h2 := hb b (by simp); have h3 := hb c (by simp); have h4 := hb d (by simp); exact ⟨by omega, by omega, by omega, by omega, by omega, by omega, by omega, by omega⟩)
  have HW := hid hw
  obtain ⟨S, hS⟩ : ∃ S, a + b + c + d = S := ⟨_, rfl⟩
  obtain ⟨Q, hQ⟩ : ∃ Q, qsq [a, b, c, d] = Q := ⟨_, rfl⟩
  have hSb : -400000 ≤ S ∧ S ≤ 400000 := by have h1 := hb a (by simp); have h2 := hb b (by simp); have h3 := hb c (by simp); have h4 := hb d (by simp); omega
  have hQb : 0 ≤ Q ∧ Q ≤ 40000000000 := by have := qsq_bd [a, b, c, d] hb; rw [hQ] at this; simpa using this
  have hss : 0 ≤ S * S ∧ S * S ≤ 160000000000 := by
    obtain ⟨t1, t2⟩ := hSb
    refine ⟨sq_nn S, ?_⟩
    rcases Int.le_total 0 S with hz | hz
    · have := Int.mul_le_mul t2 t2 hz (by omega); omega
    · have := Int.mul_le_mul (show -S ≤ 400000 by omega) (show -S ≤ 400000 by omega) (by omega) (by omega)
      rw [Int.neg_mul_neg] at this; omega
  obtain ⟨t1, t2⟩ := hSb
  obtain ⟨t3, t4⟩ := hQb
  obtain ⟨t5, t6⟩ := hss
  have HSS := hid (fun (w0 : World) => sumS_as a b c d S w0 HM.out hS)
  have HDD := hid (fun (v : Value) (w0 : World) (h0 : Ints w0 v [a, b, c, d]) => show Calls Try.prog 128 #[v, v] w0 fun e w' => e = .returned (.int .i64 Q) ∧ Later w0 w' from hQ ▸ dotQ_any v [a, b, c, d] w0 rfl hw h0)
  have HAP := hid (show apB [a, b, c, d] = (decide (0 < S) && decide (2 * Q = S * S)) by unfold apB; rw [hw, sum4, hS, hQ]; simp)
  have ha : ∀ w, (Instr.arrayAt 112 (.slice (some ad) 4 cap)).run Try.prog w = .ok (.pointer (some ad)) w := fun w => run_arrayAt w _ _ _ _ _ _ Try.underlying112 (by omega)
  have hSZ : w.heap.size + 1 = (w.alloc (.cells #[.int .i64 0, .int .i64 0, .int .i64 0, .int .i64 0] 112)).heap.size := by simp
  have HSZ := hid hSZ
  clear hA h hw hb hS hQ hSZ
  obtain ⟨d0, d1, d2, d3, f0, f1, f2, f3⟩ := HR.out
  go_enter Try.func92, Try.ntmps92
  go_wp2_with fail
  generalize w.alloc (.cells #[.int .i64 0, .int .i64 0, .int .i64 0, .int .i64 0] 112) = w1 at *
  refine (areWithin_as _ [a, b, c, d] 100000 _ _ (by omega) HW.out H1.out).mono ?_
  rintro e w' ⟨rfl, rfl⟩
  go_wp2_with fail
  have hA2 := Later.alloc w1 (.cells #[.int .i64 a, .int .i64 b, .int .i64 c, .int .i64 d] 112)
  have HB2 := hid (QBox.new w1 a b c d)
  have HR2 := hid (HR.out.later hA2)
  have HL2 := hid (HL.out.trans hA2)
  have H2 := hid (H1.out.later hA2)
  clear hA2 d0 d1 d2 d3 f0 f1 f2 f3 k0 k1 k2 k3
  generalize w1.alloc (.cells #[.int .i64 a, .int .i64 b, .int .i64 c, .int .i64 d] 112) = w2 at HB2 HR2 HL2 H2 ⊢
  obtain ⟨C, hC⟩ : ∃ C, w1.heap.size = C := ⟨_, rfl⟩
  rw [hC] at HB2 ⊢
  clear hC
  refine (HSS.out _).mono ?_
  rintro e w3 ⟨rfl, hL3⟩
  have HB3 := hid (HB2.out.later hL3)
  have HR3 := hid (HR2.out.later hL3)
  have HL3 := hid (HL2.out.trans hL3)
  have H3 := hid (H2.out.later hL3)
  clear hL3 HB2 HR2 HL2 H2
  by_cases hp : 0 < S
  · have hp1 : decide (S ≤ 0) = false := decide_eq_false (by omega)
    go_wp2_with fail
    refine (HDD.out _ _ H3.out).mono ?_
    rintro e w4 ⟨rfl, hL4⟩
    have HB4 := hid (HB3.out.later hL4)
    have HR4 := hid (HR3.out.later hL4)
    have HL4 := hid (HL3.out.trans hL4)
    clear hL4 HB3 HR3 HL3 H3
    by_cases he : 2 * Q = S * S
    · have HY := hid (show apB [a, b, c, d] = true by rw [HAP.out, decide_eq_true hp, decide_eq_true he]; rfl)
      have hb0 : (2 * Q != S * S) = false := by simp [he]
      obtain ⟨d0, d1, d2, d3, f0, f1, f2, f3⟩ := HR4.out
      obtain ⟨c0, c1, c2, c3, _, _, _, _⟩ := HB4.out
      clear he
      go_wp2_with fail
      have HR5 := hid (HR4.out.set a b c d)
      have HL5 := hid (setQ_later HL4.out (Nat.le_refl _) a b c d)
      clear c0 c1 c2 c3 d0 d1 d2 d3 f0 f1 f2 f3
      generalize ((((w4.setCell ⟨w.heap.size, 0, none⟩ (.int .i64 a)).setCell ⟨w.heap.size, 1, none⟩ (.int .i64 b)).setCell ⟨w.heap.size, 2, none⟩ (.int .i64 c)).setCell ⟨w.heap.size, 3, none⟩ (.int .i64 d)) = w5 at HR5 HL5 ⊢
      obtain ⟨d0, d1, d2, d3, _, _, _, _⟩ := HR5.out
      refine bodyPost_ret (v := .tuple #[.agg #[.int .i64 a, .int .i64 b, .int .i64 c, .int .i64 d], .bool true]) ?_ rfl (.inl ⟨HY.out, rfl, HL5.out⟩)
      rw [results_cell_tmp rfl]
      go_simp
    · have HY := hid (show apB [a, b, c, d] = false by rw [HAP.out, decide_eq_true hp, decide_eq_false he]; rfl)
      have hb0 : (2 * Q != S * S) = true := by simp [he]
      obtain ⟨d0, d1, d2, d3, f0, f1, f2, f3⟩ := HR4.out
      clear he
      go_wp2_with fail
      refine bodyPost_ret (v := .tuple #[.agg #[.int .i64 0, .int .i64 0, .int .i64 0, .int .i64 0], .bool false]) ?_ rfl (.inr ⟨HY.out, rfl, setQ_later HL4.out (Nat.le_refl _) 0 0 0 0⟩)
      rw [results_cell_tmp rfl]
      go_simp
  · have hp1 : decide (S ≤ 0) = true := decide_eq_true (by omega)
    have HY := hid (show apB [a, b, c, d] = false by rw [HAP.out, decide_eq_false hp]; rfl)
    obtain ⟨d0, d1, d2, d3, f0, f1, f2, f3⟩ := HR3.out
    go_wp2_with fail
    refine bodyPost_ret (v := .tuple #[.agg #[.int .i64 0, .int .i64 0, .int .i64 0, .int .i64 0], .bool false]) ?_ rfl (.inr ⟨HY.out, rfl, setQ_later HL3.out (Nat.le_refl _) 0 0 0 0⟩)
    rw [results_cell_tmp rfl]
    go_simp
theorem quadOf_yes (v : Value) (a b c d : Int) (w : World) (hq : apB [a, b, c, d] = true) (h : Ints w v [a, b, c, d]) :
    Calls Try.prog 92 #[v] w fun e w' => YesQ w a b c d e w' := by
  have hw : [a, b, c, d].all (within (-100000) 100000) = true := by
    simp only [apB, Bool.and_eq_true] at hq
    exact hq.1.2
  refine (quadOf_at v a b c d w hw h).mono ?_
  rintro e w' (⟨_, hy⟩ | ⟨hn, _⟩)
  · exact hy
  · rw [hq] at hn; cases hn
theorem quadOf_no (v : Value) (zs : List Int) (w : World) (hn : apB zs = false) (h : Ints w v zs) :
    Calls Try.prog 92 #[v] w fun e w' => NoQ w e w' := by
  by_cases h4 : zs.length = 4
  · cases hw : zs.all (within (-100000) 100000)
    · exact quadOf_far v zs w (.inr hw) h
    · obtain ⟨a, b, c, d, rfl⟩ := len4 h4
      refine (quadOf_at v a b c d w hw h).mono ?_
      rintro e w' (⟨hy, _⟩ | ⟨_, hno⟩)
      · rw [hn] at hy; cases hy
      · exact hno
  · exact quadOf_far v zs w (.inl h4) h
end Go.Proofs.Ytoaopmafokoaoaa
