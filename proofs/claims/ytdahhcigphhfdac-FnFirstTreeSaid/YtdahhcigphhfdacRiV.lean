/- Right triples: pairs in the program. -/
import Derived.Test.YtdahhcigphhfdacRiI
namespace Go.Proofs.Ytdahhcigphhfdac
open Go.RowKit

theorem pair_alloc (w : World) (m n : Int) (ty : TypeId) : (w.alloc (.cells #[.int .i64 m, .int .i64 n] ty)).cell? ⟨w.heap.size, 0, none⟩ = some (.int .i64 m) ∧ (w.alloc (.cells #[.int .i64 m, .int .i64 n] ty)).cell? ⟨w.heap.size, 1, none⟩ = some (.int .i64 n) := by simp [go_sem]

set_option maxHeartbeats 2000000 in
theorem isValid_any (m n : Int) (w : World) :
    Calls Try.prog 108 #[.agg #[.int .i64 m, .int .i64 n]] w fun e w' => e = .returned (.bool (validB m n)) ∧ Later w w' := by
  obtain ⟨c0, c1⟩ := pair_alloc w m n 66
  have HL := hid (Later.alloc w (.cells #[.int .i64 m, .int .i64 n] 66))
  by_cases c1' : 1 ≤ n
  · by_cases c2 : n < m
    · by_cases c3 : m ≤ 1000000000
      · have hm2 : (m + n).tmod 2 = (m + n) % 2 := Int.tmod_eq_emod_of_nonneg (by omega)
        by_cases c4 : (m + n) % 2 = 1
        · have HG := hid (fun w0 => commonDivisor_any m n w0 ⟨by omega, by omega⟩ ⟨by omega, by omega⟩)
          obtain ⟨g, hg⟩ : ∃ g, gcdW m n = g := ⟨_, rfl⟩
          rw [hg] at HG
          by_cases c5 : g = 1
          · have HA := hid (show validB m n = true from validB_iff.2 ⟨c1', c2, c3, c4, by rw [hg]; exact c5⟩)
            clear hg
            subst c5
            go_enter Try.func108, Try.ntmps108
            go_wp2_with (go_at_call 138; refine (HG.out _).mono ?_; rintro e w' ⟨rfl, hL2⟩; have HL2 := hid (HL.out.trans hL2); clear hL2)
            go_ret
            exact ⟨ret_bool HA.out.symm, HL2.out⟩
          · have HA := hid (validB_no (m := m) (n := n) fun h => c5 (by rw [← hg]; exact h.h5))
            clear hg
            go_enter Try.func108, Try.ntmps108
            go_wp2_with (go_at_call 138; refine (HG.out _).mono ?_; rintro e w' ⟨rfl, hL2⟩; have HL2 := hid (HL.out.trans hL2); clear hL2)
            go_ret
            exact ⟨ret_bool (by rw [HA.out]; exact beq_eq_false_iff_ne.2 c5), HL2.out⟩
        · have HA := hid (validB_no (m := m) (n := n) fun h => c4 h.h4)
          go_enter Try.func108, Try.ntmps108
          go_wp2_with fail
          go_ret
          exact ⟨ret_bool HA.out.symm, HL.out⟩
      · have HA := hid (validB_no (m := m) (n := n) fun h => c3 h.h3)
        go_enter Try.func108, Try.ntmps108
        go_wp2_with fail
        go_ret
        exact ⟨ret_bool HA.out.symm, HL.out⟩
    · have HA := hid (validB_no (m := m) (n := n) fun h => c2 h.h2)
      go_enter Try.func108, Try.ntmps108
      go_wp2_with fail
      go_ret
      exact ⟨ret_bool HA.out.symm, HL.out⟩
  · have HA := hid (validB_no (m := m) (n := n) fun h => c1' h.h1)
    go_enter Try.func108, Try.ntmps108
    go_wp2_with fail
    go_ret
    exact ⟨ret_bool HA.out.symm, HL.out⟩

/-- A right triple as the program holds it. -/
def rtV (m n : Int) : List Value := [.int .i64 m, .int .i64 n, .int .i64 (m * m - n * n), .int .i64 (2 * m * n), .int .i64 (m * m + n * n)]
def zero5 : List Value := [.int .i64 0, .int .i64 0, .int .i64 0, .int .i64 0, .int .i64 0]
structure Arr5 (w : World) (b : Nat) (v0 v1 v2 v3 v4 : Value) : Prop where
  c0 : w.cell? ⟨b, 0, none⟩ = some v0
  c1 : w.cell? ⟨b, 1, none⟩ = some v1
  c2 : w.cell? ⟨b, 2, none⟩ = some v2
  c3 : w.cell? ⟨b, 3, none⟩ = some v3
  c4 : w.cell? ⟨b, 4, none⟩ = some v4
theorem arr5_alloc (w : World) (v0 v1 v2 v3 v4 : Value) (ty : TypeId) : Arr5 (w.alloc (.cells #[v0, v1, v2, v3, v4] ty)) w.heap.size v0 v1 v2 v3 v4 := by
  constructor <;> simp [go_sem]
theorem Arr5.later {w w' : World} {b : Nat} {v0 v1 v2 v3 v4 : Value} (h : Arr5 w b v0 v1 v2 v3 v4) (k : Later w w') : Arr5 w' b v0 v1 v2 v3 v4 := ⟨k.cell h.c0, k.cell h.c1, k.cell h.c2, k.cell h.c3, k.cell h.c4⟩
theorem Arr5.set {w : World} {b : Nat} {v0 v1 v2 v3 v4 : Value} (h : Arr5 w b v0 v1 v2 v3 v4) (u0 u1 u2 u3 u4 : Value) :
    Arr5 (((((w.setCell ⟨b, 0, none⟩ u0).setCell ⟨b, 1, none⟩ u1).setCell ⟨b, 2, none⟩ u2).setCell ⟨b, 3, none⟩ u3).setCell ⟨b, 4, none⟩ u4) b u0 u1 u2 u3 u4 := by
  obtain ⟨h0, h1, h2, h3, h4⟩ := h
  have o : ∀ (w : World) (i j : Nat) (u v : Value), i ≠ j → w.cell? ⟨b, i, none⟩ = some v → (w.setCell ⟨b, j, none⟩ u).cell? ⟨b, i, none⟩ = some v := fun w i j u v hij hc => (World.cell?_setCell_other _ _ _ _ (by simp <;> omega)).trans hc
  have s : ∀ (w : World) (i : Nat) (u v : Value), w.cell? ⟨b, i, none⟩ = some v → (w.setCell ⟨b, i, none⟩ u).cell? ⟨b, i, none⟩ = some u := fun w i u v hc => World.cell?_setCell_same _ _ _ hc
  constructor
  · exact o _ _ _ _ _ (by omega) (o _ _ _ _ _ (by omega) (o _ _ _ _ _ (by omega) (o _ _ _ _ _ (by omega) (s _ _ _ _ h0))))
  · exact o _ _ _ _ _ (by omega) (o _ _ _ _ _ (by omega) (o _ _ _ _ _ (by omega) (s _ _ _ _ (o _ _ _ _ _ (by omega) h1))))
  · exact o _ _ _ _ _ (by omega) (o _ _ _ _ _ (by omega) (s _ _ _ _ (o _ _ _ _ _ (by omega) (o _ _ _ _ _ (by omega) h2))))
  · exact o _ _ _ _ _ (by omega) (s _ _ _ _ (o _ _ _ _ _ (by omega) (o _ _ _ _ _ (by omega) (o _ _ _ _ _ (by omega) h3))))
  · exact s _ _ _ _ (o _ _ _ _ _ (by omega) (o _ _ _ _ _ (by omega) (o _ _ _ _ _ (by omega) (o _ _ _ _ _ (by omega) h4))))
theorem later_set5 {w0 w : World} {b : Nat} (h : Later w0 w) (hb : w0.heap.size ≤ b) (u0 u1 u2 u3 u4 : Value) :
    Later w0 (((((w.setCell ⟨b, 0, none⟩ u0).setCell ⟨b, 1, none⟩ u1).setCell ⟨b, 2, none⟩ u2).setCell ⟨b, 3, none⟩ u3).setCell ⟨b, 4, none⟩ u4) :=
  Below.setCell (Below.setCell (Below.setCell (Below.setCell (Below.setCell h hb _) hb _) hb _) hb _) hb _
structure Box5 (w : World) (b : Nat) (v0 v1 v2 v3 v4 : Value) : Prop where
  arr : Arr5 w b v0 v1 v2 v3 v4
  f0 : w.frozen? ⟨b, 0, none⟩ = false
  f1 : w.frozen? ⟨b, 1, none⟩ = false
  f2 : w.frozen? ⟨b, 2, none⟩ = false
  f3 : w.frozen? ⟨b, 3, none⟩ = false
  f4 : w.frozen? ⟨b, 4, none⟩ = false
theorem Box5.new (w : World) (v0 v1 v2 v3 v4 : Value) (ty : TypeId) : Box5 (w.alloc (.cells #[v0, v1, v2, v3, v4] ty)) w.heap.size v0 v1 v2 v3 v4 :=
  ⟨arr5_alloc w v0 v1 v2 v3 v4 ty, by simp [go_sem], by simp [go_sem], by simp [go_sem], by simp [go_sem], by simp [go_sem]⟩
theorem Box5.later {w w' : World} {b : Nat} {v0 v1 v2 v3 v4 : Value} (h : Box5 w b v0 v1 v2 v3 v4) (k : Later w w') : Box5 w' b v0 v1 v2 v3 v4 :=
  ⟨h.arr.later k, k.frozen h.arr.c0 h.f0, k.frozen h.arr.c1 h.f1, k.frozen h.arr.c2 h.f2, k.frozen h.arr.c3 h.f3, k.frozen h.arr.c4 h.f4⟩
theorem Box5.set {w : World} {b : Nat} {v0 v1 v2 v3 v4 : Value} (h : Box5 w b v0 v1 v2 v3 v4) (u0 u1 u2 u3 u4 : Value) :
    Box5 (((((w.setCell ⟨b, 0, none⟩ u0).setCell ⟨b, 1, none⟩ u1).setCell ⟨b, 2, none⟩ u2).setCell ⟨b, 3, none⟩ u3).setCell ⟨b, 4, none⟩ u4) b u0 u1 u2 u3 u4 :=
  ⟨h.arr.set u0 u1 u2 u3 u4, by simp only [World.frozen?_setCell]; exact h.f0, by simp only [World.frozen?_setCell]; exact h.f1, by simp only [World.frozen?_setCell]; exact h.f2, by simp only [World.frozen?_setCell]; exact h.f3, by simp only [World.frozen?_setCell]; exact h.f4⟩
def tripV (m n : Int) : Value := if pairB m n = true then .tuple #[.agg (rtV m n).toArray, .bool true] else .tuple #[.agg zero5.toArray, .bool false]

set_option maxRecDepth 20000 in
set_option maxHeartbeats 2000000 in
theorem triple_any (m n : Int) (w : World) :
    Calls Try.prog 63 #[.agg #[.int .i64 m, .int .i64 n]] w fun e w' => e = .returned (tripV m n) ∧ Later w w' := by
  have HV := hid (fun w0 => isValid_any m n w0)
  obtain ⟨c0, c1⟩ := pair_alloc w m n 66
  have hA := arr5_alloc (w.alloc (.cells #[.int .i64 m, .int .i64 n] 66)) (.int .i64 0) (.int .i64 0) (.int .i64 0) (.int .i64 0) (.int .i64 0) 69
  have hL2 := Later.alloc (w.alloc (.cells #[.int .i64 m, .int .i64 n] 66)) (.cells #[.int .i64 0, .int .i64 0, .int .i64 0, .int .i64 0, .int .i64 0] 69)
  have hL1 := (Later.alloc w (.cells #[.int .i64 m, .int .i64 n] 66))
  have HB := hid (show (w.alloc (.cells #[.int .i64 m, .int .i64 n] 66)).heap.size = w.heap.size + 1 by simp)
  have HL := hid (hL1.trans hL2)
  replace c0 := hL2.cell c0
  replace c1 := hL2.cell c1
  rw [HB.out] at hA
  have HA := hid hA
  clear hA hL1 hL2
  have fz : ∀ i, ((w.alloc (.cells #[.int .i64 m, .int .i64 n] 66)).alloc (.cells #[.int .i64 0, .int .i64 0, .int .i64 0, .int .i64 0, .int .i64 0] 69)).frozen? ⟨w.heap.size + 1, i, none⟩ = false := by intro i; simp [go_sem]
  have HFZ := hid fz
  clear fz
  cases hv : validB m n
  · rw [hv] at HV
    have HT := hid (show tripV m n = .tuple #[.agg zero5.toArray, .bool false] by unfold tripV pairB; rw [hv]; simp)
    clear hv
    go_enter Try.func63, Try.ntmps63
    go_wp2_with (go_at_call 108; refine (HV.out _).mono ?_; rintro e w3 ⟨rfl, hL3⟩; replace c0 := hL3.cell c0; replace c1 := hL3.cell c1; have HA3 := hid (HA.out.later hL3); have HL3 := hid (HL.out.trans hL3); obtain ⟨r0, r1, r2, r3, r4⟩ := HA3.out; have f0 := hL3.frozen HA.out.c0 (HFZ.out 0); have f1 := hL3.frozen HA.out.c1 (HFZ.out 1); have f2 := hL3.frozen HA.out.c2 (HFZ.out 2); have f3 := hL3.frozen HA.out.c3 (HFZ.out 3); have f4 := hL3.frozen HA.out.c4 (HFZ.out 4); clear hL3)
    have HL4 := hid (later_set5 HL3.out (show w.heap.size ≤ w.heap.size + 1 by omega) (.int .i64 0) (.int .i64 0) (.int .i64 0) (.int .i64 0) (.int .i64 0))
    obtain ⟨e0, e1, e2, e3, e4⟩ := HA3.out.set (.int .i64 0) (.int .i64 0) (.int .i64 0) (.int .i64 0) (.int .i64 0)
    generalize (((((w3.setCell ⟨w.heap.size + 1, 0, none⟩ (.int .i64 0)).setCell ⟨w.heap.size + 1, 1, none⟩ (.int .i64 0)).setCell ⟨w.heap.size + 1, 2, none⟩ (.int .i64 0)).setCell ⟨w.heap.size + 1, 3, none⟩ (.int .i64 0)).setCell ⟨w.heap.size + 1, 4, none⟩ (.int .i64 0)) = w4 at HL4 e0 e1 e2 e3 e4 ⊢
    clear r0 r1 r2 r3 r4 f0 f1 f2 f3 f4 c0 c1
    refine bodyPost_ret (v := .tuple #[.agg #[.int .i64 0, .int .i64 0, .int .i64 0, .int .i64 0, .int .i64 0], .bool false]) ?_ rfl ⟨by rw [HT.out]; rfl, HL4.out⟩
    rw [results_cell_tmp rfl]
    go_simp
  · rw [hv] at HV
    have hV := validB_iff.1 hv
    have q1 : m * m ≤ 1000000000 * 1000000000 := Int.mul_le_mul hV.h3 hV.h3 (by have := hV.h1; have := hV.h2; omega) (by omega)
    have q2 : n * n ≤ 1000000000 * 1000000000 := Int.mul_le_mul (by have := hV.h3; have := hV.h2; omega) (by have := hV.h3; have := hV.h2; omega) (by have := hV.h1; omega) (by omega)
    have q3 : (0 : Int) ≤ m * m := Int.mul_nonneg (by have := hV.h1; have := hV.h2; omega) (by have := hV.h1; have := hV.h2; omega)
    have q4 : (0 : Int) ≤ n * n := Int.mul_nonneg (by have := hV.h1; omega) (by have := hV.h1; omega)
    by_cases hs : m * m + n * n ≤ 1000000000
    · have hP : pairB m n = true := by unfold pairB; rw [hv, decide_eq_true hs]; rfl
      obtain ⟨p1, p2, p3, p4, p5, p6, p7⟩ := (pairB_iff.1 hP).prods
      have h7 := (pairB_iff.1 hP).h7
      have p0 := hV.h1
      have p8 : 0 ≤ 2 * m * n := by omega
      have p9 : 2 * m * n ≤ 2000000000 := by omega
      clear p0 p6 p7
      have h1 := hV.h1
      have h2 := hV.h2
      have HT := hid (show tripV m n = .tuple #[.agg (rtV m n).toArray, .bool true] by unfold tripV; rw [if_pos hP])
      have hd : decide (1000000000 < m * m + n * n) = false := decide_eq_false (by omega)
      clear hv hV hP
      go_enter Try.func63, Try.ntmps63
      go_wp2_with (go_at_call 108; refine (HV.out _).mono ?_; rintro e w3 ⟨rfl, hL3⟩; replace c0 := hL3.cell c0; replace c1 := hL3.cell c1; have HA3 := hid (HA.out.later hL3); have HL3 := hid (HL.out.trans hL3); obtain ⟨r0, r1, r2, r3, r4⟩ := HA3.out; have f0 := hL3.frozen HA.out.c0 (HFZ.out 0); have f1 := hL3.frozen HA.out.c1 (HFZ.out 1); have f2 := hL3.frozen HA.out.c2 (HFZ.out 2); have f3 := hL3.frozen HA.out.c3 (HFZ.out 3); have f4 := hL3.frozen HA.out.c4 (HFZ.out 4); clear hL3)
      have HL4 := hid (later_set5 HL3.out (show w.heap.size ≤ w.heap.size + 1 by omega) (.int .i64 m) (.int .i64 n) (.int .i64 (m * m - n * n)) (.int .i64 (2 * m * n)) (.int .i64 (m * m + n * n)))
      obtain ⟨e0, e1, e2, e3, e4⟩ := HA3.out.set (.int .i64 m) (.int .i64 n) (.int .i64 (m * m - n * n)) (.int .i64 (2 * m * n)) (.int .i64 (m * m + n * n))
      generalize (((((w3.setCell ⟨w.heap.size + 1, 0, none⟩ (.int .i64 m)).setCell ⟨w.heap.size + 1, 1, none⟩ (.int .i64 n)).setCell ⟨w.heap.size + 1, 2, none⟩ (.int .i64 (m * m - n * n))).setCell ⟨w.heap.size + 1, 3, none⟩ (.int .i64 (2 * m * n))).setCell ⟨w.heap.size + 1, 4, none⟩ (.int .i64 (m * m + n * n))) = w4 at HL4 e0 e1 e2 e3 e4 ⊢
      clear r0 r1 r2 r3 r4 f0 f1 f2 f3 f4 c0 c1
      refine bodyPost_ret (v := .tuple #[.agg #[.int .i64 m, .int .i64 n, .int .i64 (m * m - n * n), .int .i64 (2 * m * n), .int .i64 (m * m + n * n)], .bool true]) ?_ rfl ⟨by rw [HT.out]; rfl, HL4.out⟩
      rw [results_cell_tmp rfl]
      go_simp
    · have HT := hid (show tripV m n = .tuple #[.agg zero5.toArray, .bool false] by unfold tripV pairB; rw [hv, decide_eq_false hs]; simp)
      have hd : decide (1000000000 < m * m + n * n) = true := decide_eq_true (by omega)
      clear hv hV
      go_enter Try.func63, Try.ntmps63
      go_wp2_with (go_at_call 108; refine (HV.out _).mono ?_; rintro e w3 ⟨rfl, hL3⟩; replace c0 := hL3.cell c0; replace c1 := hL3.cell c1; have HA3 := hid (HA.out.later hL3); have HL3 := hid (HL.out.trans hL3); obtain ⟨r0, r1, r2, r3, r4⟩ := HA3.out; have f0 := hL3.frozen HA.out.c0 (HFZ.out 0); have f1 := hL3.frozen HA.out.c1 (HFZ.out 1); have f2 := hL3.frozen HA.out.c2 (HFZ.out 2); have f3 := hL3.frozen HA.out.c3 (HFZ.out 3); have f4 := hL3.frozen HA.out.c4 (HFZ.out 4); clear hL3)
      have HL4 := hid (later_set5 HL3.out (show w.heap.size ≤ w.heap.size + 1 by omega) (.int .i64 0) (.int .i64 0) (.int .i64 0) (.int .i64 0) (.int .i64 0))
      obtain ⟨e0, e1, e2, e3, e4⟩ := HA3.out.set (.int .i64 0) (.int .i64 0) (.int .i64 0) (.int .i64 0) (.int .i64 0)
      generalize (((((w3.setCell ⟨w.heap.size + 1, 0, none⟩ (.int .i64 0)).setCell ⟨w.heap.size + 1, 1, none⟩ (.int .i64 0)).setCell ⟨w.heap.size + 1, 2, none⟩ (.int .i64 0)).setCell ⟨w.heap.size + 1, 3, none⟩ (.int .i64 0)).setCell ⟨w.heap.size + 1, 4, none⟩ (.int .i64 0)) = w4 at HL4 e0 e1 e2 e3 e4 ⊢
      clear r0 r1 r2 r3 r4 f0 f1 f2 f3 f4 c0 c1
      refine bodyPost_ret (v := .tuple #[.agg #[.int .i64 0, .int .i64 0, .int .i64 0, .int .i64 0, .int .i64 0], .bool false]) ?_ rfl ⟨by rw [HT.out]; rfl, HL4.out⟩
      rw [results_cell_tmp rfl]
      go_simp
end Go.Proofs.Ytdahhcigphhfdac
