/- Right triples in the program: parents of triples. -/
import Derived.Test.YtdahhcigphhfdacRiL
namespace Go.Proofs.Ytdahhcigphhfdac
open Go.RowKit

theorem rt_alloc (w : World) (v0 v1 v2 v3 v4 : Value) (ty : TypeId) : (w.alloc (.cells #[v0, v1, v2, v3, v4] ty)).cell? ⟨w.heap.size, 0, none⟩ = some v0 ∧ (w.alloc (.cells #[v0, v1, v2, v3, v4] ty)).cell? ⟨w.heap.size, 1, none⟩ = some v1 := by simp [go_sem]

set_option maxRecDepth 20000 in
set_option maxHeartbeats 4000000 in
theorem parentOf_any {T : Nat → St} {C : Int → Int → Int → Int × Int} {U : Int → Int → Int × Int × Int} (t : Tree T C U) (v : Value) (zs : List Int) (w : World) (h : Ints w v zs) :
    Calls Try.prog 87 #[.agg (tree3 (T 0) (T 1) (T 2)).toArray, v] w fun e w' => InAns w (parentAns U zs) e w' := by
  have HG := hid t.good
  have HB := hid (Box12.new w (T 0) (T 1) (T 2) 86)
  have hA := Later.alloc w (.cells (tree3 (T 0) (T 1) (T 2)).toArray 86)
  have HL := hid hA
  have HR := hid (rightTripleOf_any v zs _ (h.later hA))
  have HP0 := hid (show parV (T 0) (T 1) (T 2) 0 0 = parNone from t.par_none (by omega))
  have HPN := hid (fun m n (hm : m ≤ 2) => t.par_none (m := m) (n := n) hm)
  have HPS := hid (fun m n (hp : Pair m n) (hm : 2 < m) => t.par_some hp hm)
  have HUP := hid (fun m n (hp : Pair m n) (hm : 2 < m) => t.up m n hp hm)
  clear hA h t
  generalize T 0 = s0 at *
  generalize T 1 = s1 at *
  generalize T 2 = s2 at *
  have HPA := hid (fun m n w0 hm hn => parent_any m n s0 s1 s2 HG.out w0 hm hn)
  obtain ⟨a0, b0, c0, d0⟩ := s0
  obtain ⟨a1, b1, c1, d1⟩ := s1
  obtain ⟨a2, b2, c2, d2⟩ := s2
  unfold tree3 at HB HL HR HPA ⊢
  simp only at HB HL HR HPA ⊢
  cases hr : rightP zs with
  | none =>
    have HA := hid (parentAns_no (U := U) hr)
    rw [hr] at HR
    have HR2 := hid (show Calls Try.prog 65 #[v] _ fun e w' => e = .returned (.tuple #[.agg #[.int .i64 0, .int .i64 0, .int .i64 0, .int .i64 0, .int .i64 0], .bool false]) ∧ Later _ w' from HR.out)
    clear hr HR
    go_enter Try.func87, Try.ntmps87
    go_wp2_with fail
    generalize w.alloc _ = w1 at HB HL HR2 ⊢
    refine HR2.out.mono ?_
    rintro e w2 ⟨rfl, hL2⟩
    have hA2 := Later.alloc w2 (.cells #[.int .i64 0, .int .i64 0, .int .i64 0, .int .i64 0, .int .i64 0] 69)
    have HB3 := hid ((HB.out.later hL2).later hA2)
    have HL3 := hid ((HL.out.trans hL2).trans hA2)
    obtain ⟨g0, g1⟩ := rt_alloc w2 (.int .i64 0) (.int .i64 0) (.int .i64 0) (.int .i64 0) (.int .i64 0) 69
    obtain ⟨k0, k1, k2, k3, k4, k5, k6, k7, k8, k9, k10, k11⟩ := HB3.out
    simp only at k0 k1 k2 k3 k4 k5 k6 k7 k8 k9 k10 k11
    clear hL2 hA2 HR2
    go_wp2_with fail
    refine (HPA.out 0 0 _ (by omega) (by omega)).mono ?_
    rintro e w4 ⟨rfl, hL4⟩
    rw [HP0.out]
    unfold parNone
    have hA4 := Later.alloc w4 (.cells #[.int .i64 0, .int .i64 0] 66)
    have HL5 := hid ((HL3.out.trans hL4).trans hA4)
    clear hL4 hA4 g0 g1 k0 k1 k2 k3 k4 k5 k6 k7 k8 k9 k10 k11
    go_wp2_with fail
    go_ret3
    rw [HA.out]
    exact ⟨_, rfl, OwnInts.nothingR _ _ _, HL5.out⟩
  | some p =>
    obtain ⟨m, n⟩ := p
    have hp := (right_some hr).1
    have HPP := hid hp
    have hb1 := hp.h1
    have hb2 := hp.h2
    have hb7 := hp.h7
    rw [hr] at HR
    have HR2 := hid (show Calls Try.prog 65 #[v] _ fun e w' => e = .returned (.tuple #[.agg #[.int .i64 m, .int .i64 n, .int .i64 (m * m - n * n), .int .i64 (2 * m * n), .int .i64 (m * m + n * n)], .bool true]) ∧ Later _ w' from HR.out)
    by_cases hm : m ≤ 2
    · have HA := hid (parentAns_root (U := U) hr hm)
      have HPV := hid (HPN.out m n hm)
      clear hr HR hp
      go_enter Try.func87, Try.ntmps87
      go_wp2_with fail
      generalize w.alloc _ = w1 at HB HL HR2 ⊢
      refine HR2.out.mono ?_
      rintro e w2 ⟨rfl, hL2⟩
      have hA2 := Later.alloc w2 (.cells #[.int .i64 m, .int .i64 n, .int .i64 (m * m - n * n), .int .i64 (2 * m * n), .int .i64 (m * m + n * n)] 69)
      have HB3 := hid ((HB.out.later hL2).later hA2)
      have HL3 := hid ((HL.out.trans hL2).trans hA2)
      obtain ⟨g0, g1⟩ := rt_alloc w2 (.int .i64 m) (.int .i64 n) (.int .i64 (m * m - n * n)) (.int .i64 (2 * m * n)) (.int .i64 (m * m + n * n)) 69
      obtain ⟨k0, k1, k2, k3, k4, k5, k6, k7, k8, k9, k10, k11⟩ := HB3.out
      simp only at k0 k1 k2 k3 k4 k5 k6 k7 k8 k9 k10 k11
      clear hL2 hA2 HR2
      go_wp2_with fail
      refine (HPA.out m n _ (by omega) (by omega)).mono ?_
      rintro e w4 ⟨rfl, hL4⟩
      rw [HPV.out]
      unfold parNone
      have hA4 := Later.alloc w4 (.cells #[.int .i64 0, .int .i64 0] 66)
      have HL5 := hid ((HL3.out.trans hL4).trans hA4)
      clear hL4 hA4 g0 g1 k0 k1 k2 k3 k4 k5 k6 k7 k8 k9 k10 k11
      go_wp2_with fail
      go_ret3
      rw [HA.out]
      exact ⟨_, rfl, OwnInts.nothingR _ _ _, HL5.out⟩
    · have hup := HUP.out m n hp (by omega)
      have HA := hid (parentAns_yes (U := U) hr (by omega))
      have HPV := hid (HPS.out m n hp (by omega))
      obtain ⟨x, hx⟩ : ∃ x, (U m n).1 = x := ⟨_, rfl⟩
      obtain ⟨y, hy⟩ : ∃ y, (U m n).2.1 = y := ⟨_, rfl⟩
      obtain ⟨k, hk⟩ : ∃ k, (U m n).2.2 = k := ⟨_, rfl⟩
      rw [hx, hy, hk] at HA HPV
      rw [hx, hy] at hup
      have HQ := hid hup.1
      have HT := hid (fun w0 => triple_any x y w0)
      have HS := hid (fun w0 => sidesOf_any x y w0 (.agg (rtV x y).toArray) true (by unfold tripV; rw [if_pos HQ.out.yes]))
      have HTV := hid (show tripV x y = .tuple #[.agg (rtV x y).toArray, .bool true] by unfold tripV; rw [if_pos HQ.out.yes])
      have HTA := hid (tripAns_yes HQ.out)
      unfold rtV at HS HTV
      clear hr HR hp hup hx hy hk
      go_enter Try.func87, Try.ntmps87
      go_wp2_with fail
      generalize w.alloc _ = w1 at HB HL HR2 ⊢
      refine HR2.out.mono ?_
      rintro e w2 ⟨rfl, hL2⟩
      have hA2 := Later.alloc w2 (.cells #[.int .i64 m, .int .i64 n, .int .i64 (m * m - n * n), .int .i64 (2 * m * n), .int .i64 (m * m + n * n)] 69)
      have HB3 := hid ((HB.out.later hL2).later hA2)
      have HL3 := hid ((HL.out.trans hL2).trans hA2)
      obtain ⟨g0, g1⟩ := rt_alloc w2 (.int .i64 m) (.int .i64 n) (.int .i64 (m * m - n * n)) (.int .i64 (2 * m * n)) (.int .i64 (m * m + n * n)) 69
      obtain ⟨k0, k1, k2, k3, k4, k5, k6, k7, k8, k9, k10, k11⟩ := HB3.out
      simp only at k0 k1 k2 k3 k4 k5 k6 k7 k8 k9 k10 k11
      clear hL2 hA2 HR2
      go_wp2_with fail
      refine (HPA.out m n _ (by omega) (by omega)).mono ?_
      rintro e w4 ⟨rfl, hL4⟩
      rw [HPV.out]
      have hA4 := Later.alloc w4 (.cells #[.int .i64 x, .int .i64 y] 66)
      have HL5 := hid ((HL3.out.trans hL4).trans hA4)
      obtain ⟨q0, q1⟩ := pair_alloc w4 x y 66
      clear hL4 hA4 g0 g1 k0 k1 k2 k3 k4 k5 k6 k7 k8 k9 k10 k11
      go_wp2_with fail
      refine (HT.out _).mono ?_
      rintro e w6 ⟨rfl, hL6⟩
      rw [HTV.out]
      have HL6 := hid (HL5.out.trans hL6)
      clear hL6 q0 q1
      go_wp2_with fail
      refine (HS.out _).mono ?_
      rintro e w7 ⟨v7, rfl, ho, hL7⟩
      rw [HTA.out] at ho ⊢
      have HO := hid ho
      have HL7 := hid (HL6.out.trans hL7)
      clear ho hL7
      go_wp2_with fail
      go_ret3
      rw [HA.out]
      exact ⟨_, rfl, HO.out.wide HL6.out.size (Nat.le_refl _), HL7.out⟩
end Go.Proofs.Ytdahhcigphhfdac
