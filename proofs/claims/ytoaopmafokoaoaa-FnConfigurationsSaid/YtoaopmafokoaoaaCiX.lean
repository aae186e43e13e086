/- Circles: TurnCircle, FlipCircle, ShiftCircle, ReflectCircle (the model). -/
import Derived.Test.YtoaopmafokoaoaaCiW
namespace Go.Proofs.Ytoaopmafokoaoaa
open Go.RowKit

def ifAns (c : Ci4) : Option Ci4 := if ciB c = true then some c else none
set_option maxRecDepth 20000 in
set_option maxHeartbeats 2000000 in
theorem ciIf_any (a b x y : Int) (w : World) :
    Calls Try.prog 144 #[.agg #[.int .i64 a, .int .i64 b, .int .i64 x, .int .i64 y]] w fun e w' => CiAns w (ifAns (a, b, x, y)) e w' := by
  have HL := hid ((Later.alloc w (.cells #[.int .i64 a, .int .i64 b, .int .i64 x, .int .i64 y] 103)).trans (Later.alloc _ (.cells #[.int .i64 0, .int .i64 0, .int .i64 0, .int .i64 0] 103)))
  have HC := hid ((CBox.new w a b x y 103).later (Later.alloc _ (.cells #[.int .i64 0, .int .i64 0, .int .i64 0, .int .i64 0] 103)))
  have HD : Hid (CBox ((w.alloc (.cells #[.int .i64 a, .int .i64 b, .int .i64 x, .int .i64 y] 103)).alloc (.cells #[.int .i64 0, .int .i64 0, .int .i64 0, .int .i64 0] 103)) (w.heap.size + 1) 0 0 0 0) := hid (by have := CBox.new (w.alloc (.cells #[.int .i64 a, .int .i64 b, .int .i64 x, .int .i64 y] 103)) 0 0 0 0 103; simpa using this)
  have HF : Hid (∀ j, ((w.alloc (.cells #[.int .i64 a, .int .i64 b, .int .i64 x, .int .i64 y] 103)).alloc (.cells #[.int .i64 0, .int .i64 0, .int .i64 0, .int .i64 0] 103)).frozen? ⟨w.heap.size + 1, j, none⟩ = false) := hid (fun j => by simp [go_sem])
  cases hb : ciB (a, b, x, y)
  · have HB := hid hb
    have HA := hid (show ifAns (a, b, x, y) = none by unfold ifAns; rw [hb]; simp)
    clear hb
    go_enter Try.func144, Try.ntmps144
    go_wp2_with fail
    generalize (w.alloc (.cells #[.int .i64 a, .int .i64 b, .int .i64 x, .int .i64 y] 103)).alloc (.cells #[.int .i64 0, .int .i64 0, .int .i64 0, .int .i64 0] 103) = w1 at HL HC HD HF ⊢
    obtain ⟨c0, c1, c2, c3⟩ := HC.out
    refine (ciGood_as a b x y false _ HB.out).mono ?_
    rintro e w2 ⟨rfl, hL2⟩
    have HL2 := hid (HL.out.trans hL2)
    have HC2 := hid (HC.out.later hL2)
    have HD2 := hid (HD.out.later hL2)
    have HG2 := hid (And.intro (hL2.frozen HD.out.1 (HF.out 0)) (And.intro (hL2.frozen HD.out.2.1 (HF.out 1)) (And.intro (hL2.frozen HD.out.2.2.1 (HF.out 2)) (hL2.frozen HD.out.2.2.2 (HF.out 3)))))
    clear hL2
    clear c0 c1 c2 c3
    obtain ⟨c0, c1, c2, c3⟩ := HC2.out
    obtain ⟨d0, d1, d2, d3⟩ := HD2.out
    obtain ⟨f0, f1, f2, f3⟩ := HG2.out
    go_wp2_with fail
    have HLz : Hid (Later w ((((w2.setCell ⟨w.heap.size + 1, 0, none⟩ (.int .i64 0)).setCell ⟨w.heap.size + 1, 1, none⟩ (.int .i64 0)).setCell ⟨w.heap.size + 1, 2, none⟩ (.int .i64 0)).setCell ⟨w.heap.size + 1, 3, none⟩ (.int .i64 0))) := hid (set4_later HL2.out (by omega) 0 _ _ _ _)
    have HCz := hid (HD2.out.set (0) (0) (0) (0))
    generalize ((((w2.setCell ⟨w.heap.size + 1, 0, none⟩ (.int .i64 0)).setCell ⟨w.heap.size + 1, 1, none⟩ (.int .i64 0)).setCell ⟨w.heap.size + 1, 2, none⟩ (.int .i64 0)).setCell ⟨w.heap.size + 1, 3, none⟩ (.int .i64 0)) = wz at HLz HCz ⊢
    obtain ⟨g0, g1, g2, g3⟩ := HCz.out
    refine bodyPost_ret (v := .tuple #[.agg #[.int .i64 0, .int .i64 0, .int .i64 0, .int .i64 0], .bool false]) ?_ rfl ⟨by rw [HA.out]; rfl, HLz.out⟩
    rw [results_cell_tmp rfl]
    go_simp
  · have HB := hid hb
    have HA := hid (show ifAns (a, b, x, y) = some (a, b, x, y) by unfold ifAns; rw [hb]; simp)
    clear hb
    go_enter Try.func144, Try.ntmps144
    go_wp2_with fail
    generalize (w.alloc (.cells #[.int .i64 a, .int .i64 b, .int .i64 x, .int .i64 y] 103)).alloc (.cells #[.int .i64 0, .int .i64 0, .int .i64 0, .int .i64 0] 103) = w1 at HL HC HD HF ⊢
    obtain ⟨c0, c1, c2, c3⟩ := HC.out
    refine (ciGood_as a b x y true _ HB.out).mono ?_
    rintro e w2 ⟨rfl, hL2⟩
    have HL2 := hid (HL.out.trans hL2)
    have HC2 := hid (HC.out.later hL2)
    have HD2 := hid (HD.out.later hL2)
    have HG2 := hid (And.intro (hL2.frozen HD.out.1 (HF.out 0)) (And.intro (hL2.frozen HD.out.2.1 (HF.out 1)) (And.intro (hL2.frozen HD.out.2.2.1 (HF.out 2)) (hL2.frozen HD.out.2.2.2 (HF.out 3)))))
    clear hL2
    clear c0 c1 c2 c3
    obtain ⟨c0, c1, c2, c3⟩ := HC2.out
    obtain ⟨d0, d1, d2, d3⟩ := HD2.out
    obtain ⟨f0, f1, f2, f3⟩ := HG2.out
    go_wp2_with fail
    have HLz : Hid (Later w ((((w2.setCell ⟨w.heap.size + 1, 0, none⟩ (.int .i64 a)).setCell ⟨w.heap.size + 1, 1, none⟩ (.int .i64 b)).setCell ⟨w.heap.size + 1, 2, none⟩ (.int .i64 x)).setCell ⟨w.heap.size + 1, 3, none⟩ (.int .i64 y))) := hid (set4_later HL2.out (by omega) 0 _ _ _ _)
    have HCz := hid (HD2.out.set (a) (b) (x) (y))
    generalize ((((w2.setCell ⟨w.heap.size + 1, 0, none⟩ (.int .i64 a)).setCell ⟨w.heap.size + 1, 1, none⟩ (.int .i64 b)).setCell ⟨w.heap.size + 1, 2, none⟩ (.int .i64 x)).setCell ⟨w.heap.size + 1, 3, none⟩ (.int .i64 y)) = wz at HLz HCz ⊢
    obtain ⟨g0, g1, g2, g3⟩ := HCz.out
    refine bodyPost_ret (v := .tuple #[.agg #[.int .i64 a, .int .i64 b, .int .i64 x, .int .i64 y], .bool true]) ?_ rfl ⟨by rw [HA.out]; rfl, HLz.out⟩
    rw [results_cell_tmp rfl]
    go_simp
theorem shOf_eq (a b x y u v : Int) : shOf (a, b, x, y) u v = (a + 2 * (x * u + y * v) + b * (u * u + v * v), b, x + b * u, y + b * v) := by
  unfold shOf; simp only; rw [Int.add_assoc a]
set_option maxRecDepth 20000 in
set_option maxHeartbeats 2000000 in
theorem shiftS_any (a b x y u v : Int) (w : World) :
    Calls Try.prog 120 #[.agg #[.int .i64 a, .int .i64 b, .int .i64 x, .int .i64 y], .int .i64 u, .int .i64 v] w fun e w' => CiAns w (shiftAns (a, b, x, y) u v) e w' := by
  have HL := hid ((Later.alloc w (.cells #[.int .i64 a, .int .i64 b, .int .i64 x, .int .i64 y] 103)).trans (Later.alloc _ (.cells #[.int .i64 0, .int .i64 0, .int .i64 0, .int .i64 0] 103)))
  have HC := hid ((CBox.new w a b x y 103).later (Later.alloc _ (.cells #[.int .i64 0, .int .i64 0, .int .i64 0, .int .i64 0] 103)))
  have HD : Hid (CBox ((w.alloc (.cells #[.int .i64 a, .int .i64 b, .int .i64 x, .int .i64 y] 103)).alloc (.cells #[.int .i64 0, .int .i64 0, .int .i64 0, .int .i64 0] 103)) (w.heap.size + 1) 0 0 0 0) := hid (by have := CBox.new (w.alloc (.cells #[.int .i64 a, .int .i64 b, .int .i64 x, .int .i64 y] 103)) 0 0 0 0 103; simpa using this)
  have HF : Hid (∀ j, ((w.alloc (.cells #[.int .i64 a, .int .i64 b, .int .i64 x, .int .i64 y] 103)).alloc (.cells #[.int .i64 0, .int .i64 0, .int .i64 0, .int .i64 0] 103)).frozen? ⟨w.heap.size + 1, j, none⟩ = false) := hid (fun j => by simp [go_sem])
  cases hb : ciB (a, b, x, y)
  · have HB := hid hb
    have HA := hid (show shiftAns (a, b, x, y) u v = none by unfold shiftAns; rw [hb]; simp)
    clear hb
    go_enter Try.func120, Try.ntmps120
    go_wp2_with fail
    generalize (w.alloc (.cells #[.int .i64 a, .int .i64 b, .int .i64 x, .int .i64 y] 103)).alloc (.cells #[.int .i64 0, .int .i64 0, .int .i64 0, .int .i64 0] 103) = w1 at HL HC HD HF ⊢
    obtain ⟨c0, c1, c2, c3⟩ := HC.out
    refine (ciGood_as a b x y false _ HB.out).mono ?_
    rintro e w2 ⟨rfl, hL2⟩
    have HL2 := hid (HL.out.trans hL2)
    have HC2 := hid (HC.out.later hL2)
    have HD2 := hid (HD.out.later hL2)
    have HG2 := hid (And.intro (hL2.frozen HD.out.1 (HF.out 0)) (And.intro (hL2.frozen HD.out.2.1 (HF.out 1)) (And.intro (hL2.frozen HD.out.2.2.1 (HF.out 2)) (hL2.frozen HD.out.2.2.2 (HF.out 3)))))
    clear hL2
    clear c0 c1 c2 c3
    obtain ⟨c0, c1, c2, c3⟩ := HC2.out
    obtain ⟨d0, d1, d2, d3⟩ := HD2.out
    obtain ⟨f0, f1, f2, f3⟩ := HG2.out
    go_wp2_with fail
    have HLz : Hid (Later w ((((w2.setCell ⟨w.heap.size + 1, 0, none⟩ (.int .i64 0)).setCell ⟨w.heap.size + 1, 1, none⟩ (.int .i64 0)).setCell ⟨w.heap.size + 1, 2, none⟩ (.int .i64 0)).setCell ⟨w.heap.size + 1, 3, none⟩ (.int .i64 0))) := hid (set4_later HL2.out (by omega) 0 _ _ _ _)
    have HCz := hid (HD2.out.set (0) (0) (0) (0))
    generalize ((((w2.setCell ⟨w.heap.size + 1, 0, none⟩ (.int .i64 0)).setCell ⟨w.heap.size + 1, 1, none⟩ (.int .i64 0)).setCell ⟨w.heap.size + 1, 2, none⟩ (.int .i64 0)).setCell ⟨w.heap.size + 1, 3, none⟩ (.int .i64 0)) = wz at HLz HCz ⊢
    obtain ⟨g0, g1, g2, g3⟩ := HCz.out
    refine bodyPost_ret (v := .tuple #[.agg #[.int .i64 0, .int .i64 0, .int .i64 0, .int .i64 0], .bool false]) ?_ rfl ⟨by rw [HA.out]; rfl, HLz.out⟩
    rw [results_cell_tmp rfl]
    go_simp
  · have HB := hid hb
    cases hu : within (-1000) 1000 u
    · have HU := hid hu
      have HA := hid (show shiftAns (a, b, x, y) u v = none by unfold shiftAns; rw [hu]; simp)
      clear hb hu
      go_enter Try.func120, Try.ntmps120
      go_wp2_with fail
      generalize (w.alloc (.cells #[.int .i64 a, .int .i64 b, .int .i64 x, .int .i64 y] 103)).alloc (.cells #[.int .i64 0, .int .i64 0, .int .i64 0, .int .i64 0] 103) = w1 at HL HC HD HF ⊢
      obtain ⟨c0, c1, c2, c3⟩ := HC.out
      refine (ciGood_as a b x y true _ HB.out).mono ?_
      rintro e w2 ⟨rfl, hL2⟩
      have HL2 := hid (HL.out.trans hL2)
      have HC2 := hid (HC.out.later hL2)
      have HD2 := hid (HD.out.later hL2)
      have HG2 := hid (And.intro (hL2.frozen HD.out.1 (HF.out 0)) (And.intro (hL2.frozen HD.out.2.1 (HF.out 1)) (And.intro (hL2.frozen HD.out.2.2.1 (HF.out 2)) (hL2.frozen HD.out.2.2.2 (HF.out 3)))))
      clear hL2
      clear c0 c1 c2 c3
      obtain ⟨c0, c1, c2, c3⟩ := HC2.out
      obtain ⟨d0, d1, d2, d3⟩ := HD2.out
      obtain ⟨f0, f1, f2, f3⟩ := HG2.out
      go_wp2_with fail
      refine (l1In_as _ _ _ _ _ HU.out).mono ?_
      rintro e w3 ⟨rfl, rfl⟩
      go_wp2_with fail
      have HLz : Hid (Later w ((((w2.setCell ⟨w.heap.size + 1, 0, none⟩ (.int .i64 0)).setCell ⟨w.heap.size + 1, 1, none⟩ (.int .i64 0)).setCell ⟨w.heap.size + 1, 2, none⟩ (.int .i64 0)).setCell ⟨w.heap.size + 1, 3, none⟩ (.int .i64 0))) := hid (set4_later HL2.out (by omega) 0 _ _ _ _)
      have HCz := hid (HD2.out.set (0) (0) (0) (0))
      generalize ((((w2.setCell ⟨w.heap.size + 1, 0, none⟩ (.int .i64 0)).setCell ⟨w.heap.size + 1, 1, none⟩ (.int .i64 0)).setCell ⟨w.heap.size + 1, 2, none⟩ (.int .i64 0)).setCell ⟨w.heap.size + 1, 3, none⟩ (.int .i64 0)) = wz at HLz HCz ⊢
      obtain ⟨g0, g1, g2, g3⟩ := HCz.out
      refine bodyPost_ret (v := .tuple #[.agg #[.int .i64 0, .int .i64 0, .int .i64 0, .int .i64 0], .bool false]) ?_ rfl ⟨by rw [HA.out]; rfl, HLz.out⟩
      rw [results_cell_tmp rfl]
      go_simp
    · have HU := hid hu
      cases hv : within (-1000) 1000 v
      · have HV := hid hv
        have HA := hid (show shiftAns (a, b, x, y) u v = none by unfold shiftAns; rw [hv]; simp)
        clear hb hu hv
        go_enter Try.func120, Try.ntmps120
        go_wp2_with fail
        generalize (w.alloc (.cells #[.int .i64 a, .int .i64 b, .int .i64 x, .int .i64 y] 103)).alloc (.cells #[.int .i64 0, .int .i64 0, .int .i64 0, .int .i64 0] 103) = w1 at HL HC HD HF ⊢
        obtain ⟨c0, c1, c2, c3⟩ := HC.out
        refine (ciGood_as a b x y true _ HB.out).mono ?_
        rintro e w2 ⟨rfl, hL2⟩
        have HL2 := hid (HL.out.trans hL2)
        have HC2 := hid (HC.out.later hL2)
        have HD2 := hid (HD.out.later hL2)
        have HG2 := hid (And.intro (hL2.frozen HD.out.1 (HF.out 0)) (And.intro (hL2.frozen HD.out.2.1 (HF.out 1)) (And.intro (hL2.frozen HD.out.2.2.1 (HF.out 2)) (hL2.frozen HD.out.2.2.2 (HF.out 3)))))
        clear hL2
        clear c0 c1 c2 c3
        obtain ⟨c0, c1, c2, c3⟩ := HC2.out
        obtain ⟨d0, d1, d2, d3⟩ := HD2.out
        obtain ⟨f0, f1, f2, f3⟩ := HG2.out
        go_wp2_with fail
        refine (l1In_as _ _ _ _ _ HU.out).mono ?_
        rintro e w3 ⟨rfl, rfl⟩
        go_wp2_with fail
        refine (l1In_as _ _ _ _ _ HV.out).mono ?_
        rintro e w3 ⟨rfl, rfl⟩
        go_wp2_with fail
        have HLz : Hid (Later w ((((w2.setCell ⟨w.heap.size + 1, 0, none⟩ (.int .i64 0)).setCell ⟨w.heap.size + 1, 1, none⟩ (.int .i64 0)).setCell ⟨w.heap.size + 1, 2, none⟩ (.int .i64 0)).setCell ⟨w.heap.size + 1, 3, none⟩ (.int .i64 0))) := hid (set4_later HL2.out (by omega) 0 _ _ _ _)
        have HCz := hid (HD2.out.set (0) (0) (0) (0))
        generalize ((((w2.setCell ⟨w.heap.size + 1, 0, none⟩ (.int .i64 0)).setCell ⟨w.heap.size + 1, 1, none⟩ (.int .i64 0)).setCell ⟨w.heap.size + 1, 2, none⟩ (.int .i64 0)).setCell ⟨w.heap.size + 1, 3, none⟩ (.int .i64 0)) = wz at HLz HCz ⊢
        obtain ⟨g0, g1, g2, g3⟩ := HCz.out
        refine bodyPost_ret (v := .tuple #[.agg #[.int .i64 0, .int .i64 0, .int .i64 0, .int .i64 0], .bool false]) ?_ rfl ⟨by rw [HA.out]; rfl, HLz.out⟩
        rw [results_cell_tmp rfl]
        go_simp
      · have HV := hid hv
        have HA := hid (show shiftAns (a, b, x, y) u v = ifAns ((a + 2 * (x * u + y * v) + b * (u * u + v * v)), b, (x + b * u), (y + b * v)) by unfold shiftAns ifAns; rw [shOf_eq, hb, hu, hv]; simp)
        have hc := ciB_in hb
        obtain ⟨u1, u2⟩ := within_th hu
        obtain ⟨v1, v2⟩ := within_th hv
        obtain ⟨⟨a1, a2⟩, ⟨b1, b2⟩, ⟨x1, x2⟩, y1, y2⟩ := ciIn_bd hc
        obtain ⟨m1, m2⟩ := mulM_bd ⟨x1, x2⟩ ⟨u1, u2⟩
        obtain ⟨m3, m4⟩ := mulM_bd ⟨y1, y2⟩ ⟨v1, v2⟩
        obtain ⟨m5, m6⟩ := mulM_bd ⟨u1, u2⟩ ⟨u1, u2⟩
        obtain ⟨m7, m8⟩ := mulM_bd ⟨v1, v2⟩ ⟨v1, v2⟩
        obtain ⟨m9, m10⟩ := mulM_bd (q := u * u + v * v) (N := 2000000) ⟨b1, b2⟩ ⟨by omega, by omega⟩
        obtain ⟨m11, m12⟩ := mulM_bd ⟨b1, b2⟩ ⟨u1, u2⟩
        obtain ⟨m13, m14⟩ := mulM_bd ⟨b1, b2⟩ ⟨v1, v2⟩
        have HIF := hid (fun w0 => ciIf_any (a + 2 * (x * u + y * v) + b * (u * u + v * v)) b (x + b * u) (y + b * v) w0)
        obtain ⟨o, ho⟩ : ∃ o, ifAns ((a + 2 * (x * u + y * v) + b * (u * u + v * v)), b, (x + b * u), (y + b * v)) = o := ⟨_, rfl⟩
        unfold CiAns at HIF
        rw [ho] at HIF HA
        obtain ⟨R, hR⟩ : ∃ R, o.getD c00 = R := ⟨_, rfl⟩
        obtain ⟨ra, rb, rx, ry⟩ := R
        rw [hR] at HIF
        have HR := hid hR
        clear hb hu hv hc ho hR
        go_enter Try.func120, Try.ntmps120
        go_wp2_with fail
        generalize (w.alloc (.cells #[.int .i64 a, .int .i64 b, .int .i64 x, .int .i64 y] 103)).alloc (.cells #[.int .i64 0, .int .i64 0, .int .i64 0, .int .i64 0] 103) = w1 at HL HC HD HF ⊢
        obtain ⟨c0, c1, c2, c3⟩ := HC.out
        refine (ciGood_as a b x y true _ HB.out).mono ?_
        rintro e w2 ⟨rfl, hL2⟩
        have HL2 := hid (HL.out.trans hL2)
        have HC2 := hid (HC.out.later hL2)
        have HD2 := hid (HD.out.later hL2)
        have HG2 := hid (And.intro (hL2.frozen HD.out.1 (HF.out 0)) (And.intro (hL2.frozen HD.out.2.1 (HF.out 1)) (And.intro (hL2.frozen HD.out.2.2.1 (HF.out 2)) (hL2.frozen HD.out.2.2.2 (HF.out 3)))))
        clear hL2
        clear c0 c1 c2 c3
        obtain ⟨c0, c1, c2, c3⟩ := HC2.out
        obtain ⟨d0, d1, d2, d3⟩ := HD2.out
        obtain ⟨f0, f1, f2, f3⟩ := HG2.out
        go_wp2_with fail
        refine (l1In_as _ _ _ _ _ HU.out).mono ?_
        rintro e w3 ⟨rfl, rfl⟩
        go_wp2_with fail
        refine (l1In_as _ _ _ _ _ HV.out).mono ?_
        rintro e w3 ⟨rfl, rfl⟩
        go_wp2_with fail
        refine (HIF.out _).mono ?_
        rintro e w3 ⟨rfl, hL3⟩
        have HL3 := hid (HL2.out.trans hL3)
        have HC3 := hid (HC2.out.later hL3)
        have HD3 := hid (HD2.out.later hL3)
        have HG3 := hid (And.intro (hL3.frozen HD2.out.1 (HG2.out.1)) (And.intro (hL3.frozen HD2.out.2.1 (HG2.out.2.1)) (And.intro (hL3.frozen HD2.out.2.2.1 (HG2.out.2.2.1)) (hL3.frozen HD2.out.2.2.2 (HG2.out.2.2.2)))))
        clear hL3
        clear c0 c1 c2 c3
        obtain ⟨c0, c1, c2, c3⟩ := HC3.out
        obtain ⟨d0, d1, d2, d3⟩ := HD3.out
        obtain ⟨f0, f1, f2, f3⟩ := HG3.out
        go_wp2_with fail
        have HLz : Hid (Later w ((((w3.setCell ⟨w.heap.size + 1, 0, none⟩ (.int .i64 ra)).setCell ⟨w.heap.size + 1, 1, none⟩ (.int .i64 rb)).setCell ⟨w.heap.size + 1, 2, none⟩ (.int .i64 rx)).setCell ⟨w.heap.size + 1, 3, none⟩ (.int .i64 ry))) := hid (set4_later HL3.out (by omega) 0 _ _ _ _)
        have HCz := hid (HD3.out.set (ra) (rb) (rx) (ry))
        generalize ((((w3.setCell ⟨w.heap.size + 1, 0, none⟩ (.int .i64 ra)).setCell ⟨w.heap.size + 1, 1, none⟩ (.int .i64 rb)).setCell ⟨w.heap.size + 1, 2, none⟩ (.int .i64 rx)).setCell ⟨w.heap.size + 1, 3, none⟩ (.int .i64 ry)) = wz at HLz HCz ⊢
        obtain ⟨g0, g1, g2, g3⟩ := HCz.out
        refine bodyPost_ret (v := .tuple #[.agg #[.int .i64 ra, .int .i64 rb, .int .i64 rx, .int .i64 ry], .bool o.isSome]) ?_ rfl ⟨by rw [HA.out, HR.out], HLz.out⟩
        rw [results_cell_tmp rfl]
        go_simp
end Go.Proofs.Ytoaopmafokoaoaa
