/- Slices of circles: comparisons, marks. -/
import Derived.Test.YtljikcajfmnnmabCiB
namespace Go.Proofs.Ytljikcajfmnnmab
open Go.RowKit

theorem Cis.at {w : World} {a : Option Addr} {n cap : Nat} {L : List Ci4} (h : Cis w (.slice a n cap) L) (k : Nat) (hk : k < L.length) :
    ∃ g, a = some ⟨g, 0, none⟩ ∧ w.cell? ⟨g, k * 4, none⟩ = some (.int .i64 (L.getD k c00).1) ∧ w.cell? ⟨g, k * 4 + 1, none⟩ = some (.int .i64 (L.getD k c00).2.1) ∧ w.cell? ⟨g, k * 4 + 2, none⟩ = some (.int .i64 (L.getD k c00).2.2.1) ∧ w.cell? ⟨g, k * 4 + 3, none⟩ = some (.int .i64 (L.getD k c00).2.2.2) := by
  obtain ⟨a', cap', e, _, _, hc⟩ := h
  simp only [Value.slice.injEq] at e
  obtain ⟨rfl, _, _⟩ := e
  exact hc k hk
set_option maxRecDepth 20000 in
set_option maxHeartbeats 1000000 in
theorem eqCircleS_same (u v : Value) (L : List Ci4) (w : World) (hx : Cis w u L) (hy : Cis w v L) :
    Calls Try.prog 12 #[u, v] w fun e w' => e = .returned (.bool true) ∧ Later w w' := by
  obtain ⟨a, cap, rfl, hl, _⟩ := id hx
  obtain ⟨b, cap2, rfl, hl2, _⟩ := id hy
  have HX := hid hx
  have HY := hid hy
  clear hx hy
  have hne : ((L.length : Int) != (L.length : Int)) = false := by simp
  go_enter Try.func12, Try.ntmps12
  go_wp2
  go_loopw [5] (fun i wr => ∃ k : Nat, k ≤ L.length ∧ i = .int .i64 k ∧ Later w wr) (fun i _ => L.length - (intOf i).toNat)
  case atStart => exact ⟨0, Nat.zero_le _, rfl, Later.refl _⟩
  case round =>
    obtain ⟨k, hk, rfl, hL⟩ := hrel
    by_cases hlt : k < L.length
    · obtain ⟨g, rfl, c0, c1, c2, c3⟩ := (HX.out.later hL).at k hlt
      obtain ⟨g2, rfl, d0, d1, d2, d3⟩ := (HY.out.later hL).at k hlt
      obtain ⟨t, ht⟩ : ∃ t, L.getD k c00 = t := ⟨_, rfl⟩
      rw [ht] at c0 c1 c2 c3 d0 d1 d2 d3
      obtain ⟨p, q, r, s⟩ := t
      simp only at c0 c1 c2 c3 d0 d1 d2 d3
      have hi1 : (k : Int) < (L.length : Int) := by omega
      have HE := hid (fun w0 => eqCircle_self p q r s w0)
      have HL := hid hL
      clear ht
      unfold BoolRes at HE
      go_wp2_with fail
      have kc0 : ∀ u : LaterH wr, u.now.cell? ⟨g, k * 4, none⟩ = some (.int .i64 p) := fun u => u.later.cell c0
      have kc1 : ∀ u : LaterH wr, u.now.cell? ⟨g, k * 4 + 1, none⟩ = some (.int .i64 q) := fun u => u.later.cell c1
      have kc2 : ∀ u : LaterH wr, u.now.cell? ⟨g, k * 4 + 2, none⟩ = some (.int .i64 r) := fun u => u.later.cell c2
      have kc3 : ∀ u : LaterH wr, u.now.cell? ⟨g, k * 4 + 3, none⟩ = some (.int .i64 s) := fun u => u.later.cell c3
      have kd0 : ∀ u : LaterH wr, u.now.cell? ⟨g2, k * 4, none⟩ = some (.int .i64 p) := fun u => u.later.cell d0
      have kd1 : ∀ u : LaterH wr, u.now.cell? ⟨g2, k * 4 + 1, none⟩ = some (.int .i64 q) := fun u => u.later.cell d1
      have kd2 : ∀ u : LaterH wr, u.now.cell? ⟨g2, k * 4 + 2, none⟩ = some (.int .i64 r) := fun u => u.later.cell d2
      have kd3 : ∀ u : LaterH wr, u.now.cell? ⟨g2, k * 4 + 3, none⟩ = some (.int .i64 s) := fun u => u.later.cell d3
      clear c0 c1 c2 c3 d0 d1 d2 d3 hL
      refine wp_region_quiet_laterH (by kernel_rfl) (by kernel_rfl) ?_
      repeat
        with_reducible refine wpQuiet_step (fun K hK => ?_)
        go_simp
        first
          | (with_reducible refine hK _ ?_; clear hK K)
          | (apply Exists.intro
             refine ⟨fun _ => ?_, hK _ ?_⟩
             (go_at_call 36; with_reducible exact Calls.laterH _ (HE.out _))
             clear hK K)
      with_reducible refine wpQuiet_nil ?_
      intro w2 hw'
      obtain ⟨⟨wq, hLq⟩, hw''⟩ := hw'
      subst hw''
      have HL2 := hid (HL.out.trans hLq)
      clear hLq kc0 kc1 kc2 kc3 kd0 kd1 kd2 kd3
      go_wp2_with fail
      go_roundw
      case rel => exact ⟨k + 1, hlt, by go_num, HL2.out⟩
      case measure => simp [intOf]; omega
    · go_wp2
      go_ret
      exact ⟨rfl, hL⟩

/-! ### marks -/
def ciMark (k : Int) (i : Nat) : Ci4 := (k + 4 * (i : Int), k + 4 * (i : Int) + 1, k + 4 * (i : Int) + 2, k + 4 * (i : Int) + 3)
def ciMarks (k : Int) (n : Nat) : List Ci4 := (List.range n).map (ciMark k)
theorem ciMarks_len (k : Int) (n : Nat) : (ciMarks k n).length = n := by simp [ciMarks]
theorem ciMarks_at (k : Int) (n i : Nat) (h : i < n) : (ciMarks k n).getD i c00 = ciMark k i := by simp [ciMarks, h]
def markTo (k : Int) (L : List Ci4) (j : Nat) : List Ci4 := ciMarks k j ++ L.drop j
theorem markTo_len (k : Int) (L : List Ci4) (j : Nat) (h : j ≤ L.length) : (markTo k L j).length = L.length := by
  unfold markTo
  rw [List.length_append, ciMarks_len, List.length_drop]
  omega
theorem markTo_step (k : Int) (L : List Ci4) (j : Nat) (h : j < L.length) : (markTo k L j).set j (ciMark k j) = markTo k L (j + 1) := by
  unfold markTo
  rw [List.set_append_right _ _ (by rw [ciMarks_len]; exact Nat.le_refl _), ciMarks_len, Nat.sub_self, List.drop_eq_getElem_cons h, List.set_cons_zero]
  unfold ciMarks
  rw [List.range_succ, List.map_append, List.append_assoc]
  rfl
theorem markTo_all (k : Int) (L : List Ci4) : markTo k L L.length = ciMarks k L.length := by simp [markTo]
theorem OwnCis.tok {lo hi : Nat} {w : World} {v : Value} {L : List Ci4} (h : OwnCis lo hi w v L) {g n cap : Nat} (e : v = .slice (some ⟨g, 0, none⟩) n cap) : g < hi ∧ lo ≤ g := by
  subst e
  exact ⟨h.2 g rfl, (h.1.lt g rfl).1⟩

theorem OwnCis.blk {lo hi : Nat} {w : World} {v : Value} {L : List Ci4} (h : OwnCis lo hi w v L) {b : Nat} (hb : v.ownBlock = some b) : lo ≤ b ∧ b < hi := ⟨(h.1.lt b hb).1, h.2 b hb⟩
def MarkResC (lo hi : Nat) (w : World) (v : Value) (n : Nat) (k : Int) (e : Ending) (w' : World) : Prop :=
  e = .returned (.int .i64 (k + 4 * (n : Int))) ∧ OwnCis lo hi w' v (ciMarks k n) ∧ Wrote (fun b => v.ownBlock = some b) w w'
set_option maxRecDepth 20000 in
set_option maxHeartbeats 1000000 in
theorem markCircleS_any (lo hi : Nat) (v : Value) (L : List Ci4) (k : Int) (w : World) (hk : 0 ≤ k ∧ k + 4 * (L.length : Int) ≤ 4611686018427387904) (h : OwnCis lo hi w v L) :
    Calls Try.prog 13 #[v, .int .i64 k] w fun e w' => MarkResC lo hi w v L.length k e w' := by
  obtain ⟨hk0, hk1⟩ := hk
  rcases h.form with ⟨rfl, rfl⟩ | ⟨g, cap, rfl⟩
  · have H := hid h
    clear h hk1
    go_enter Try.func13, Try.ntmps13
    go_wp2
    refine wp_loop_rounds 1 ?_; rw [rounds_succ]
    go_wp2
    go_ret
    exact ⟨ret_int (by simp), by simpa [ciMarks] using H.out, Wrote.refl _ _⟩
  · have H := hid h
    clear h
    go_enter Try.func13, Try.ntmps13
    go_wp2
    go_loopw [1, 5] (fun x i wr => ∃ j : Nat, j ≤ L.length ∧ i = .int .i64 j ∧ x = .int .i64 (k + 4 * (j : Int)) ∧ OwnCis lo hi wr (.slice (some ⟨g, 0, none⟩) L.length cap) (markTo k L j) ∧ Wrote (fun b => b = g) w wr) (fun _ i _ => L.length - (intOf i).toNat)
    case atStart => exact ⟨0, Nat.zero_le _, rfl, by simp, by simpa [markTo, ciMarks] using H.out, Wrote.refl _ _⟩
    case round =>
      obtain ⟨j, hj, rfl, rfl, hO, hW⟩ := hrel
      have HO := hid hO
      have HW := hid hW
      clear hO hW
      by_cases hlt : j < L.length
      · obtain ⟨⟨e0, e1, e2, e3⟩, f0, f1, f2, f3⟩ := HO.out.openAt (markTo_len k L j hj) j hlt
        obtain ⟨m, hm⟩ : ∃ m : Int, k + 4 * (j : Int) = m := ⟨_, rfl⟩
        have hmb : 0 ≤ m ∧ m + 4 ≤ 4611686018427387904 := by omega
        obtain ⟨m0, m1⟩ := hmb
        have HM := hid hm
        rw [hm]
        clear hm
        go_wp2_with fail
        go_roundw
        case rel =>
          have h1 := OwnCis.put (by rw [markTo_len k L j hj]; exact HO.out) j (by rw [markTo_len k L j hj]; exact hlt) m (m + 1) (m + 2) (m + 3)
          have e1 : (m, m + 1, m + 2, m + 3) = ciMark k j := by unfold ciMark; rw [HM.out]
          rw [e1, markTo_step k L j hlt, markTo_len k L j hj] at h1
          refine ⟨j + 1, hlt, by go_num, by rw [← HM.out]; congr 1; omega, ?_, ?_⟩
          · rw [show m + 1 + 1 = m + 2 by omega, show m + 2 + 1 = m + 3 by omega]; exact h1
          · exact (((HW.out.trans (Wrote.setCell _ _ _ rfl)).trans (Wrote.setCell _ _ _ rfl)).trans (Wrote.setCell _ _ _ rfl)).trans (Wrote.setCell _ _ _ rfl)
        case measure => simp [intOf]; omega
      · obtain rfl : j = L.length := by omega
        go_wp2
        go_ret
        have hO := HO.out
        rw [markTo_all] at hO
        exact ⟨rfl, hO, HW.out.mono (fun b hb => by subst hb; rfl)⟩
set_option maxRecDepth 20000 in
set_option maxHeartbeats 1000000 in
theorem heldCircleS_any (v : Value) (n : Nat) (k : Int) (w : World) (hk : 0 ≤ k ∧ k + 4 * (n : Int) ≤ 4611686018427387904) (h : Cis w v (ciMarks k n)) :
    Calls Try.prog 14 #[v, .int .i64 k] w fun e w' => e = .returned (.int .i64 (k + 4 * (n : Int))) ∧ w = w' := by
  obtain ⟨a, cap, rfl, hl, _⟩ := id h
  have H := hid h
  obtain ⟨hk0, hk1⟩ := hk
  clear h
  rw [ciMarks_len] at H hl ⊢
  go_enter Try.func14, Try.ntmps14
  go_wp2
  go_loop [1, 5] (fun x i => ∃ j : Nat, j ≤ n ∧ i = .int .i64 j ∧ x = .int .i64 (k + 4 * (j : Int))) (fun _ i => n - (intOf i).toNat)
  case atStart => exact ⟨0, Nat.zero_le _, rfl, by simp⟩
  case round =>
    obtain ⟨j, hj, rfl, rfl⟩ := hrel
    by_cases hlt : j < n
    · obtain ⟨g, rfl, c0, c1, c2, c3⟩ := H.out.at j (by rw [ciMarks_len]; exact hlt)
      rw [ciMarks_at k n j hlt] at c0 c1 c2 c3
      unfold ciMark at c0 c1 c2 c3
      simp only at c0 c1 c2 c3
      obtain ⟨m, hm⟩ : ∃ m : Int, k + 4 * (j : Int) = m := ⟨_, rfl⟩
      have hmb : 0 ≤ m ∧ m + 4 ≤ 4611686018427387904 := by omega
      obtain ⟨m0, m1⟩ := hmb
      have HM := hid hm
      rw [hm] at c0 c1 c2 c3 ⊢
      clear hm
      rw [show m + 2 = m + 1 + 1 by omega] at c2
      rw [show m + 3 = m + 1 + 1 + 1 by omega] at c3
      have b0 : (m != m) = false := by simp
      have b1 : (m + 1 != m + 1) = false := by simp
      have b2 : (m + 1 + 1 != m + 1 + 1) = false := by simp
      have b3 : (m + 1 + 1 + 1 != m + 1 + 1 + 1) = false := by simp
      go_wp2_with fail
      go_round
      case rel => exact ⟨j + 1, hlt, by go_num, by rw [← HM.out]; congr 1; omega⟩
      case measure => simp [intOf]; omega
    · obtain rfl : j = n := by omega
      go_wp2
      go_ret
      exact ⟨rfl, rfl⟩
end Go.Proofs.Ytljikcajfmnnmab
