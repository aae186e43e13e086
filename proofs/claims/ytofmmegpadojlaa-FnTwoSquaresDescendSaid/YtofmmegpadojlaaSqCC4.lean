/- Steps of a descent of four squares in the program. -/
import Derived.Test.YtofmmegpadojlaaSqCC
namespace Go.Proofs.Ytofmmegpadojlaa
open Go.RowKit

theorem nearCl4_any (a k : Int) (ad : Addr) (w : World) (hc : w.cell? ad = some (.int .i64 k)) (ha : -1000000000 ≤ a ∧ a ≤ 1000000000) (hm : 1 ≤ k ∧ k ≤ 1000000) :
    Calls Try.prog 119 #[.int .i64 a, .pointer (some ad)] w fun e w' => e = .returned (.int .i64 (Sq.near a k)) ∧ w = w' := by
  have HN := hid (fun w => nearest_any a k w ha hm)
  go_enter Try.func119, Try.ntmps119
  go_wp2_with (go_at_call 107; refine (HN.out _).mono ?_; rintro e w2 ⟨rfl, rfl⟩)
  go_ret
  exact ⟨rfl, rfl⟩
theorem divCl4_any (a k : Int) (ad : Addr) (w : World) (hc : w.cell? ad = some (.int .i64 k)) (ha : -1000000000000000 ≤ a ∧ a ≤ 1000000000000000) (hm : 1 ≤ k ∧ k ≤ 1000000) :
    Calls Try.prog 120 #[.int .i64 a, .pointer (some ad)] w fun e w' => e = .returned (.int .i64 (Sq.iabs a / k)) ∧ w = w' := by
  have hz : ¬ k = 0 := by omega
  have hq := quoI (x := Sq.iabs a) (m := k) (Sq.iabs_nonneg a)
  have hb := iabs_bd ha
  have w1 : IntKind.i64.wrap (-a) = -a := by rw [IntWalk.i64_left]; exact IntWalk.wrap64_in _ (by omega)
  obtain ⟨r, hr⟩ : ∃ r, Sq.iabs a / k = r := ⟨_, rfl⟩
  have hrb : 0 ≤ r ∧ r ≤ 1000000000000000 := by
    rw [← hr]
    exact ⟨Int.ediv_nonneg hb.1 (by omega), Int.le_trans (Int.ediv_le_self _ hb.1) hb.2⟩
  have w2 : IntKind.i64.wrap r = r := by rw [IntWalk.i64_left]; exact IntWalk.wrap64_in _ (by omega)
  rw [hr] at hq
  rw [hr]
  by_cases hlt : a < -a
  · have e1 : Sq.iabs a = -a := by unfold Sq.iabs; split <;> omega
    rw [e1] at hq
    clear e1 hb hr
    go_enter Try.func120, Try.ntmps120
    go_wp2_with fail
    go_ret
    exact ⟨rfl, rfl⟩
  · have e1 : Sq.iabs a = a := by unfold Sq.iabs; split <;> omega
    rw [e1] at hq
    clear e1 hb hr
    go_enter Try.func120, Try.ntmps120
    go_wp2_with fail
    go_ret
    exact ⟨rfl, rfl⟩
set_option maxRecDepth 100000 in
set_option maxHeartbeats 8000000 in
theorem changed4_any (x0 x1 x2 x3 : Int) (F : Nat) (caps : Array Value) (f : Int → Int) (w : World) (eg : ∀ args w, (callFunc F args).run Try.prog w = .ok (.enter F args) w)
    (hF : ∀ z w1, z ∈ [x0, x1, x2, x3] → Later w w1 → Calls Try.prog F (#[.int .i64 z] ++ caps) w1 fun e w2 => e = .returned (.int .i64 (f z)) ∧ w1 = w2) :
    Calls Try.prog 118 #[.agg #[.int .i64 x0, .int .i64 x1, .int .i64 x2, .int .i64 x3], .func (.func F) #[] caps] w fun e w' => e = .returned (.agg #[.int .i64 (f x0), .int .i64 (f x1), .int .i64 (f x2), .int .i64 (f x3)]) ∧ Later w w' := by
  have HF := hid hF; clear hF
  have L1 := Later.alloc w (.cells #[.int .i64 x0, .int .i64 x1, .int .i64 x2, .int .i64 x3] 82)
  have L2 := Later.alloc (w.alloc (.cells #[.int .i64 x0, .int .i64 x1, .int .i64 x2, .int .i64 x3] 82)) (.cells #[.int .i64 0, .int .i64 0, .int .i64 0, .int .i64 0] 82)
  have HA := hid ((NBox.new w [x0, x1, x2, x3] #[.int .i64 x0, .int .i64 x1, .int .i64 x2, .int .i64 x3] 82 rfl).later L2)
  have HR := hid (NBox.new (w.alloc (.cells #[.int .i64 x0, .int .i64 x1, .int .i64 x2, .int .i64 x3] 82)) [0, 0, 0, 0] #[.int .i64 0, .int .i64 0, .int .i64 0, .int .i64 0] 82 rfl)
  have HL := hid (L1.trans L2)
  simp only [World.size_alloc] at HR
  clear L1 L2
  obtain ⟨W, hW⟩ : ∃ W, (w.alloc (.cells #[.int .i64 x0, .int .i64 x1, .int .i64 x2, .int .i64 x3] 82)).alloc (.cells #[.int .i64 0, .int .i64 0, .int .i64 0, .int .i64 0] 82) = W := ⟨_, rfl⟩
  rw [hW] at HA HR HL
  have c0 := (HA.out 0 x0 rfl).1
  have c1 := (HA.out 1 x1 rfl).1
  have c2 := (HA.out 2 x2 rfl).1
  have c3 := (HA.out 3 x3 rfl).1
  obtain ⟨zs, hzs⟩ : ∃ zs, [x0, x1, x2, x3] = zs := ⟨_, rfl⟩
  have HZ := hid hzs
  have HZL := hid (show zs.length = 4 by rw [← hzs]; rfl)
  rw [hzs] at HA HF
  clear hzs
  go_enter Try.func118, Try.ntmps118
  go_wp2_with fail
  clear c0 c1 c2 c3
  go_loopw [9] (fun i wr => ∃ k : Nat, k ≤ 4 ∧ i = .int .i64 k ∧ NBox wr w.heap.size (curL f zs k) ∧ NBox wr (w.heap.size + 1) [0, 0, 0, 0] ∧ Later w wr) (fun i _ => 4 - (intOf i).toNat)
  case atStart => exact ⟨0, Nat.zero_le _, rfl, by simpa [curL] using HA.out, HR.out, HL.out⟩
  case round =>
    clear HA HR HL
    obtain ⟨k, hk, rfl, hA, hR, hL⟩ := hrel
    by_cases hlt : (k : Int) < 4
    · have hkN : k < 4 := by omega
      obtain ⟨z, hz⟩ : ∃ z, zs[k]? = some z := ⟨zs[k]'(by rw [HZL.out]; omega), by simp [HZL.out, hkN]⟩
      obtain ⟨hcell, hfr⟩ := hA k z (curL_at f zs k z hz)
      have HC := hid (HF.out z wr (List.mem_of_getElem? hz) hL)
      have HA2 := hid (show NBox (wr.setCell ⟨w.heap.size, k, none⟩ (.int .i64 (f z))) w.heap.size (curL f zs (k + 1)) by rw [← curL_set f zs k z hz]; exact hA.put k (f z))
      have HR2 := hid (hR.keep (heap_setCell_other wr ⟨w.heap.size, k, none⟩ (w.heap.size + 1) (.int .i64 (f z)) (by simp only; omega)))
      have HL2 := hid (show Later w (wr.setCell ⟨w.heap.size, k, none⟩ (.int .i64 (f z))) from hL.setCell (by simp only; omega) _)
      clear hA hR hL hz
      go_wp2_with fail
      refine HC.out.mono ?_
      rintro e w2 ⟨rfl, rfl⟩
      go_wp2_with fail
      go_roundw
      case rel => exact ⟨k + 1, by omega, by go_num, HA2.out, HR2.out, HL2.out⟩
      case measure => simp [intOf]; omega
    · have hke : k = 4 := by omega
      subst hke
      have HN : NBox wr w.heap.size [f x0, f x1, f x2, f x3] := by have h := hA; rw [← HZ.out] at h; exact h
      have c0 := (HN 0 (f x0) rfl).1
      have r0 := (hR 0 0 rfl).1
      have f0 := (hR 0 0 rfl).2
      have c1 := (HN 1 (f x1) rfl).1
      have r1 := (hR 1 0 rfl).1
      have f1 := (hR 1 0 rfl).2
      have c2 := (HN 2 (f x2) rfl).1
      have r2 := (hR 2 0 rfl).1
      have f2 := (hR 2 0 rfl).2
      have c3 := (HN 3 (f x3) rfl).1
      have r3 := (hR 3 0 rfl).1
      have f3 := (hR 3 0 rfl).2
      have HL := hid hL
      have HHF := hid HF.out
      clear hA HN hR hL HF
      go_wp2_with fail
      refine bodyPost_ret (v := .agg #[.int .i64 (f x0), .int .i64 (f x1), .int .i64 (f x2), .int .i64 (f x3)]) ?_ rfl ?_
      · rw [results_cellN rfl]
        go_simp
      · exact ⟨rfl, (Below.setCell (p := ⟨w.heap.size + 1, 3, none⟩) (Below.setCell (p := ⟨w.heap.size + 1, 2, none⟩) (Below.setCell (p := ⟨w.heap.size + 1, 1, none⟩) (Below.setCell (p := ⟨w.heap.size + 1, 0, none⟩) HL.out (by simp only; omega) _) (by simp only; omega) _) (by simp only; omega) _) (by simp only; omega) _)⟩
end Go.Proofs.Ytofmmegpadojlaa
