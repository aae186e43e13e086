/- Right triples in the program: children of triples. -/
import Derived.Test.YtdahhcigphhfdacRiM
import Derived.Deep.RegionHeld3
namespace Go.Proofs.Ytdahhcigphhfdac
open Go.RowKit

theorem isChild_any (k : Int) (w : World) : Calls Try.prog 118 #[.int .i64 k] w fun e w' => e = .returned (.bool (within 0 2 k)) ∧ w = w' := by
  by_cases h1 : 0 ≤ k
  · have hb1 : decide (0 ≤ k) = true := decide_eq_true h1
    by_cases h2 : k < 3
    · have HW := hid (show within 0 2 k = true by unfold within; simp; omega)
      rw [HW.out]
      go_enter Try.func118, Try.ntmps118
      go_wp2_with fail
      go_ret
      exact ⟨rfl, rfl⟩
    · have HW := hid (show within 0 2 k = false by unfold within; simp only [Bool.and_eq_false_iff, decide_eq_false_iff_not]; omega)
      rw [HW.out]
      go_enter Try.func118, Try.ntmps118
      go_wp2_with fail
      go_ret
      first | exact ⟨rfl, rfl⟩ | exact ⟨ret_bool (decide_eq_false h2), rfl⟩
  · have HW := hid (show within 0 2 k = false by unfold within; simp only [Bool.and_eq_false_iff, decide_eq_false_iff_not]; omega)
    rw [HW.out]
    go_enter Try.func118, Try.ntmps118
    go_wp2_with fail
    go_ret
    exact ⟨rfl, rfl⟩
theorem isChild_as (k : Int) (b : Bool) (w : World) (h : within 0 2 k = b) : Calls Try.prog 118 #[.int .i64 k] w fun e w' => e = .returned (.bool b) ∧ w = w' := by subst h; exact isChild_any k w
theorem tripV_formG (m n : Int) : ∃ a ok, tripV m n = .tuple #[a, .bool ok] := by
  unfold tripV
  split
  · exact ⟨_, _, rfl⟩
  · exact ⟨_, _, rfl⟩

set_option maxRecDepth 20000 in
set_option maxHeartbeats 4000000 in
theorem childOf_any {T : Nat → St} {C : Int → Int → Int → Int × Int} {U : Int → Int → Int × Int × Int} (t : Tree T C U) (v : Value) (zs : List Int) (k : Int) (w : World) (h : Ints w v zs) :
    Calls Try.prog 77 #[.agg (tree3 (T 0) (T 1) (T 2)).toArray, v, .int .i64 k] w fun e w' => IntsAns w (childAns C zs k) e w' := by
  have HB := hid (Box12.new w (T 0) (T 1) (T 2) 86)
  have hA := Later.alloc w (.cells (tree3 (T 0) (T 1) (T 2)).toArray 86)
  have HL := hid hA
  have HR := hid (rightTripleOf_any v zs _ (h.later hA))
  have HK0 := hid (fun m n => t.kid 0 m n (by omega))
  have HK1 := hid (fun m n => t.kid 1 m n (by omega))
  have HK2 := hid (fun m n => t.kid 2 m n (by omega))
  have HS0 := hid (t.small 0)
  have HS1 := hid (t.small 1)
  have HS2 := hid (t.small 2)
  clear hA h t
  generalize T 0 = s0 at *
  generalize T 1 = s1 at *
  generalize T 2 = s2 at *
  have HC0 := hid (fun m n w0 hm hn => childP_any m n s0 HS0.out w0 hm hn)
  have HC1 := hid (fun m n w0 hm hn => childP_any m n s1 HS1.out w0 hm hn)
  have HC2 := hid (fun m n w0 hm hn => childP_any m n s2 HS2.out w0 hm hn)
  obtain ⟨a0, b0, c0, d0⟩ := s0
  obtain ⟨a1, b1, c1, d1⟩ := s1
  obtain ⟨a2, b2, c2, d2⟩ := s2
  unfold tree3 at HB HL HR ⊢
  unfold stV at HC0 HC1 HC2
  simp only at HB HL HR HC0 HC1 HC2 ⊢
  cases hr : rightP zs with
  | none =>
    have HA := hid (childAns_no (C := C) (k := k) hr)
    rw [hr] at HR
    have HR2 := hid (show Calls Try.prog 65 #[v] _ fun e w' => e = .returned (.tuple #[.agg #[.int .i64 0, .int .i64 0, .int .i64 0, .int .i64 0, .int .i64 0], .bool false]) ∧ Later _ w' from HR.out)
    clear hr HR
    go_enter Try.func77, Try.ntmps77
    go_wp2_with fail
    generalize w.alloc _ = w1 at HB HL HR2 ⊢
    refine HR2.out.mono ?_
    rintro e w2 ⟨rfl, hL2⟩
    have hA2 := Later.alloc w2 (.cells #[.int .i64 0, .int .i64 0, .int .i64 0, .int .i64 0, .int .i64 0] 69)
    have HL3 := hid ((HL.out.trans hL2).trans hA2)
    clear hL2 hA2 HR2
    go_wp2_with fail
    go_ret2
    rw [HA.out]
    exact ⟨_, rfl, OwnInts.nothingR _ _ _, HL3.out⟩
  | some p =>
    obtain ⟨m, n⟩ := p
    have hp := (right_some hr).1
    have hb1 := hp.h1
    have hb2 := hp.h2
    have hb7 := hp.h7
    rw [hr] at HR
    have HR2 := hid (show Calls Try.prog 65 #[v] _ fun e w' => e = .returned (.tuple #[.agg #[.int .i64 m, .int .i64 n, .int .i64 (m * m - n * n), .int .i64 (2 * m * n), .int .i64 (m * m + n * n)], .bool true]) ∧ Later _ w' from HR.out)
    cases hk : within 0 2 k
    · have HA := hid (childAns_out (C := C) (zs := zs) hk)
      have HK := hid hk
      clear hr HR hp hk
      go_enter Try.func77, Try.ntmps77
      go_wp2_with fail
      generalize w.alloc _ = w1 at HB HL HR2 ⊢
      refine HR2.out.mono ?_
      rintro e w2 ⟨rfl, hL2⟩
      have hA2 := Later.alloc w2 (.cells #[.int .i64 m, .int .i64 n, .int .i64 (m * m - n * n), .int .i64 (2 * m * n), .int .i64 (m * m + n * n)] 69)
      have HL3 := hid ((HL.out.trans hL2).trans hA2)
      clear hL2 hA2 HR2
      go_wp2_with (go_at_call 118; refine (isChild_as _ _ _ HK.out).mono ?_; rintro e w4 ⟨rfl, rfl⟩)
      go_ret2
      rw [HA.out]
      exact ⟨_, rfl, OwnInts.nothingR _ _ _, HL3.out⟩
    · have HA := hid (childAns_yes (C := C) hr hk)
      have HK := hid hk
      have hk3 : k = 0 ∨ k = 1 ∨ k = 2 := by simp only [within, Bool.and_eq_true, decide_eq_true_eq] at hk; omega
      clear hr HR hp hk
      rcases hk3 with rfl | hk3
      · have HKD := hid (HK0.out m n)
        have HCH := hid (fun w0 => HC0.out m n w0 (by omega) (by omega))
        obtain ⟨x, hx⟩ : ∃ x, (kid ⟨a0, b0, c0, d0⟩ m n).1 = x := ⟨_, rfl⟩
        obtain ⟨y, hy⟩ : ∃ y, (kid ⟨a0, b0, c0, d0⟩ m n).2 = y := ⟨_, rfl⟩
        rw [hx, hy] at HCH
        have HA2 := hid (show childAns C zs 0 = tripAns x y by rw [← hx, ← hy, HKD.out]; exact HA.out)
        obtain ⟨ta, ok, hv⟩ := tripV_formG x y
        have HT := hid (fun w0 => triple_any x y w0)
        rw [hv] at HT
        have HSD := hid (fun w0 => sidesOf_any x y w0 ta ok hv)
        clear hx hy hv HA
        go_enter Try.func77, Try.ntmps77
        go_wp2_with fail
        generalize w.alloc _ = w1 at HB HL HR2 ⊢
        refine HR2.out.mono ?_
        rintro e w2 ⟨rfl, hL2⟩
        have hA2 := Later.alloc w2 (.cells #[.int .i64 m, .int .i64 n, .int .i64 (m * m - n * n), .int .i64 (2 * m * n), .int .i64 (m * m + n * n)] 69)
        have HB3 := hid ((HB.out.later hL2).later hA2)
        have HL3 := hid ((HL.out.trans hL2).trans hA2)
        obtain ⟨p0, p1⟩ := rt_alloc w2 (.int .i64 m) (.int .i64 n) (.int .i64 (m * m - n * n)) (.int .i64 (2 * m * n)) (.int .i64 (m * m + n * n)) 69
        have p2 := HB3.out.k0
        have p3 := HB3.out.k1
        have p4 := HB3.out.k2
        have p5 := HB3.out.k3
        simp only at p2 p3 p4 p5
        clear hL2 hA2 HR2
        go_wp2_with (go_at_call 118; refine (isChild_as _ _ _ HK.out).mono ?_; rintro e w4 ⟨rfl, rfl⟩)
        generalize w2.alloc _ = w4 at HL3 p0 p1 p2 p3 p4 p5 ⊢
        go_region_held3 (fun w' => w'.cell? ⟨w2.heap.size, 0, none⟩ = some (.int .i64 m) ∧ w'.cell? ⟨w2.heap.size, 1, none⟩ = some (.int .i64 n) ∧ w'.cell? ⟨w.heap.size, 0, none⟩ = some (.int .i64 a0) ∧ w'.cell? ⟨w.heap.size, 1, none⟩ = some (.int .i64 b0) ∧ w'.cell? ⟨w.heap.size, 2, none⟩ = some (.int .i64 c0) ∧ w'.cell? ⟨w.heap.size, 3, none⟩ = some (.int .i64 d0)) (first | exact ⟨p0, p1, p2, p3, p4, p5⟩ | exact ⟨q0, q1, q2, q3, q4, q5⟩ | exact ⟨r0, r1, r2, r3, r4, r5⟩ | exact ⟨s0, s1, s2, s3, s4, s5⟩) (first | (go_at_call 119; refine (HCH.out _).mono ?_; rintro e w5 ⟨rfl, hL5⟩; have hL5' := (Later.drew w4).trans hL5; have q0 := hL5'.cell p0; have q1 := hL5'.cell p1; have q2 := hL5'.cell p2; have q3 := hL5'.cell p3; have q4 := hL5'.cell p4; have q5 := hL5'.cell p5; have HL5 := hid hL5'; clear hL5 hL5') | (go_at_call 63; refine (HT.out _).mono ?_; rintro e w6 ⟨rfl, hL6⟩; have hL6' := HL5.out.trans hL6; have r0 := hL6.cell q0; have r1 := hL6.cell q1; have r2 := hL6.cell q2; have r3 := hL6.cell q3; have r4 := hL6.cell q4; have r5 := hL6.cell q5; have HL6 := hid hL6'; have HZ6 := hid hL6'.size; clear hL6 hL6') | (go_at_call 62; refine (HSD.out _).mono ?_; rintro e w7 ⟨v7, rfl, ho, hL7⟩; have hL7' := HL6.out.trans hL7; have s0 := hL7.cell r0; have s1 := hL7.cell r1; have s2 := hL7.cell r2; have s3 := hL7.cell r3; have s4 := hL7.cell r4; have s5 := hL7.cell r5; have HL7 := hid hL7'; have HO7 := hid ho; clear hL7 hL7' ho))
        all_goals go_wp2_with fail
        all_goals go_ret2
        all_goals rw [HA2.out]
        all_goals exact ⟨_, rfl, HO7.out.wide (Nat.le_trans HL3.out.size HZ6.out) (Nat.le_refl _), HL3.out.trans HL7.out⟩
      rcases hk3 with rfl | rfl
      · have HKD := hid (HK1.out m n)
        have HCH := hid (fun w0 => HC1.out m n w0 (by omega) (by omega))
        obtain ⟨x, hx⟩ : ∃ x, (kid ⟨a1, b1, c1, d1⟩ m n).1 = x := ⟨_, rfl⟩
        obtain ⟨y, hy⟩ : ∃ y, (kid ⟨a1, b1, c1, d1⟩ m n).2 = y := ⟨_, rfl⟩
        rw [hx, hy] at HCH
        have HA2 := hid (show childAns C zs 1 = tripAns x y by rw [← hx, ← hy, HKD.out]; exact HA.out)
        obtain ⟨ta, ok, hv⟩ := tripV_formG x y
        have HT := hid (fun w0 => triple_any x y w0)
        rw [hv] at HT
        have HSD := hid (fun w0 => sidesOf_any x y w0 ta ok hv)
        clear hx hy hv HA
        go_enter Try.func77, Try.ntmps77
        go_wp2_with fail
        generalize w.alloc _ = w1 at HB HL HR2 ⊢
        refine HR2.out.mono ?_
        rintro e w2 ⟨rfl, hL2⟩
        have hA2 := Later.alloc w2 (.cells #[.int .i64 m, .int .i64 n, .int .i64 (m * m - n * n), .int .i64 (2 * m * n), .int .i64 (m * m + n * n)] 69)
        have HB3 := hid ((HB.out.later hL2).later hA2)
        have HL3 := hid ((HL.out.trans hL2).trans hA2)
        obtain ⟨p0, p1⟩ := rt_alloc w2 (.int .i64 m) (.int .i64 n) (.int .i64 (m * m - n * n)) (.int .i64 (2 * m * n)) (.int .i64 (m * m + n * n)) 69
        have p2 := HB3.out.k4
        have p3 := HB3.out.k5
        have p4 := HB3.out.k6
        have p5 := HB3.out.k7
        simp only at p2 p3 p4 p5
        clear hL2 hA2 HR2
        go_wp2_with (go_at_call 118; refine (isChild_as _ _ _ HK.out).mono ?_; rintro e w4 ⟨rfl, rfl⟩)
        generalize w2.alloc _ = w4 at HL3 p0 p1 p2 p3 p4 p5 ⊢
        go_region_held3 (fun w' => w'.cell? ⟨w2.heap.size, 0, none⟩ = some (.int .i64 m) ∧ w'.cell? ⟨w2.heap.size, 1, none⟩ = some (.int .i64 n) ∧ w'.cell? ⟨w.heap.size, 4, none⟩ = some (.int .i64 a1) ∧ w'.cell? ⟨w.heap.size, 5, none⟩ = some (.int .i64 b1) ∧ w'.cell? ⟨w.heap.size, 6, none⟩ = some (.int .i64 c1) ∧ w'.cell? ⟨w.heap.size, 7, none⟩ = some (.int .i64 d1)) (first | exact ⟨p0, p1, p2, p3, p4, p5⟩ | exact ⟨q0, q1, q2, q3, q4, q5⟩ | exact ⟨r0, r1, r2, r3, r4, r5⟩ | exact ⟨s0, s1, s2, s3, s4, s5⟩) (first | (go_at_call 119; refine (HCH.out _).mono ?_; rintro e w5 ⟨rfl, hL5⟩; have hL5' := (Later.drew w4).trans hL5; have q0 := hL5'.cell p0; have q1 := hL5'.cell p1; have q2 := hL5'.cell p2; have q3 := hL5'.cell p3; have q4 := hL5'.cell p4; have q5 := hL5'.cell p5; have HL5 := hid hL5'; clear hL5 hL5') | (go_at_call 63; refine (HT.out _).mono ?_; rintro e w6 ⟨rfl, hL6⟩; have hL6' := HL5.out.trans hL6; have r0 := hL6.cell q0; have r1 := hL6.cell q1; have r2 := hL6.cell q2; have r3 := hL6.cell q3; have r4 := hL6.cell q4; have r5 := hL6.cell q5; have HL6 := hid hL6'; have HZ6 := hid hL6'.size; clear hL6 hL6') | (go_at_call 62; refine (HSD.out _).mono ?_; rintro e w7 ⟨v7, rfl, ho, hL7⟩; have hL7' := HL6.out.trans hL7; have s0 := hL7.cell r0; have s1 := hL7.cell r1; have s2 := hL7.cell r2; have s3 := hL7.cell r3; have s4 := hL7.cell r4; have s5 := hL7.cell r5; have HL7 := hid hL7'; have HO7 := hid ho; clear hL7 hL7' ho))
        all_goals go_wp2_with fail
        all_goals go_ret2
        all_goals rw [HA2.out]
        all_goals exact ⟨_, rfl, HO7.out.wide (Nat.le_trans HL3.out.size HZ6.out) (Nat.le_refl _), HL3.out.trans HL7.out⟩
      · have HKD := hid (HK2.out m n)
        have HCH := hid (fun w0 => HC2.out m n w0 (by omega) (by omega))
        obtain ⟨x, hx⟩ : ∃ x, (kid ⟨a2, b2, c2, d2⟩ m n).1 = x := ⟨_, rfl⟩
        obtain ⟨y, hy⟩ : ∃ y, (kid ⟨a2, b2, c2, d2⟩ m n).2 = y := ⟨_, rfl⟩
        rw [hx, hy] at HCH
        have HA2 := hid (show childAns C zs 2 = tripAns x y by rw [← hx, ← hy, HKD.out]; exact HA.out)
        obtain ⟨ta, ok, hv⟩ := tripV_formG x y
        have HT := hid (fun w0 => triple_any x y w0)
        rw [hv] at HT
        have HSD := hid (fun w0 => sidesOf_any x y w0 ta ok hv)
        clear hx hy hv HA
        go_enter Try.func77, Try.ntmps77
        go_wp2_with fail
        generalize w.alloc _ = w1 at HB HL HR2 ⊢
        refine HR2.out.mono ?_
        rintro e w2 ⟨rfl, hL2⟩
        have hA2 := Later.alloc w2 (.cells #[.int .i64 m, .int .i64 n, .int .i64 (m * m - n * n), .int .i64 (2 * m * n), .int .i64 (m * m + n * n)] 69)
        have HB3 := hid ((HB.out.later hL2).later hA2)
        have HL3 := hid ((HL.out.trans hL2).trans hA2)
        obtain ⟨p0, p1⟩ := rt_alloc w2 (.int .i64 m) (.int .i64 n) (.int .i64 (m * m - n * n)) (.int .i64 (2 * m * n)) (.int .i64 (m * m + n * n)) 69
        have p2 := HB3.out.k8
        have p3 := HB3.out.k9
        have p4 := HB3.out.k10
        have p5 := HB3.out.k11
        simp only at p2 p3 p4 p5
        clear hL2 hA2 HR2
        go_wp2_with (go_at_call 118; refine (isChild_as _ _ _ HK.out).mono ?_; rintro e w4 ⟨rfl, rfl⟩)
        generalize w2.alloc _ = w4 at HL3 p0 p1 p2 p3 p4 p5 ⊢
        go_region_held3 (fun w' => w'.cell? ⟨w2.heap.size, 0, none⟩ = some (.int .i64 m) ∧ w'.cell? ⟨w2.heap.size, 1, none⟩ = some (.int .i64 n) ∧ w'.cell? ⟨w.heap.size, 8, none⟩ = some (.int .i64 a2) ∧ w'.cell? ⟨w.heap.size, 9, none⟩ = some (.int .i64 b2) ∧ w'.cell? ⟨w.heap.size, 10, none⟩ = some (.int .i64 c2) ∧ w'.cell? ⟨w.heap.size, 11, none⟩ = some (.int .i64 d2)) (first | exact ⟨p0, p1, p2, p3, p4, p5⟩ | exact ⟨q0, q1, q2, q3, q4, q5⟩ | exact ⟨r0, r1, r2, r3, r4, r5⟩ | exact ⟨s0, s1, s2, s3, s4, s5⟩) (first | (go_at_call 119; refine (HCH.out _).mono ?_; rintro e w5 ⟨rfl, hL5⟩; have hL5' := (Later.drew w4).trans hL5; have q0 := hL5'.cell p0; have q1 := hL5'.cell p1; have q2 := hL5'.cell p2; have q3 := hL5'.cell p3; have q4 := hL5'.cell p4; have q5 := hL5'.cell p5; have HL5 := hid hL5'; clear hL5 hL5') | (go_at_call 63; refine (HT.out _).mono ?_; rintro e w6 ⟨rfl, hL6⟩; have hL6' := HL5.out.trans hL6; have r0 := hL6.cell q0; have r1 := hL6.cell q1; have r2 := hL6.cell q2; have r3 := hL6.cell q3; have r4 := hL6.cell q4; have r5 := hL6.cell q5; have HL6 := hid hL6'; have HZ6 := hid hL6'.size; clear hL6 hL6') | (go_at_call 62; refine (HSD.out _).mono ?_; rintro e w7 ⟨v7, rfl, ho, hL7⟩; have hL7' := HL6.out.trans hL7; have s0 := hL7.cell r0; have s1 := hL7.cell r1; have s2 := hL7.cell r2; have s3 := hL7.cell r3; have s4 := hL7.cell r4; have s5 := hL7.cell r5; have HL7 := hid hL7'; have HO7 := hid ho; clear hL7 hL7' ho))
        all_goals go_wp2_with fail
        all_goals go_ret2
        all_goals rw [HA2.out]
        all_goals exact ⟨_, rfl, HO7.out.wide (Nat.le_trans HL3.out.size HZ6.out) (Nat.le_refl _), HL3.out.trans HL7.out⟩
end Go.Proofs.Ytdahhcigphhfdac
