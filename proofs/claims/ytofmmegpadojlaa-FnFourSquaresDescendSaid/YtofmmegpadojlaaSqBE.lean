/- Boxes that are written whole; lists of squares as slices. -/
import Derived.Test.YtofmmegpadojlaaSqBD
namespace Go.Proofs.Ytofmmegpadojlaa
open Go.RowKit

theorem NBox.put {w : World} {B : Nat} {zs : List Int} (h : NBox w B zs) (i : Nat) (x : Int) : NBox (w.setCell ⟨B, i, none⟩ (.int .i64 x)) B (zs.set i x) := by
  intro j z hj
  by_cases e : i = j
  · subst e
    have hlt : i < zs.length := by have := (List.getElem?_eq_some_iff.1 hj).1; simpa using this
    rw [List.getElem?_set_self hlt] at hj
    cases hj
    have h0 := h i zs[i] (by simp [hlt])
    exact ⟨World.cell?_setCell_same _ _ _ h0.1, by rw [World.frozen?_setCell]; exact h0.2⟩
  · rw [List.getElem?_set_ne e] at hj
    have h0 := h j z hj
    exact ⟨(World.cell?_setCell_other _ _ _ _ (by intro e2; injection e2 with _ e3; exact e e3)).trans h0.1, by rw [World.frozen?_setCell]; exact h0.2⟩
theorem NBox.all2 {w : World} {B : Nat} {a0 a1 : Int} (h : NBox w B [a0, a1]) (b0 b1 : Int) : NBox ((w.setCell ⟨B, 0, none⟩ (.int .i64 b0)).setCell ⟨B, 1, none⟩ (.int .i64 b1)) B [b0, b1] := by
  have h1 := NBox.put (zs := [a0, a1]) h 0 b0
  have h2 := NBox.put (zs := [b0, a1]) h1 1 b1
  exact h2
theorem NBox.all4 {w : World} {B : Nat} {a0 a1 a2 a3 : Int} (h : NBox w B [a0, a1, a2, a3]) (b0 b1 b2 b3 : Int) : NBox ((((w.setCell ⟨B, 0, none⟩ (.int .i64 b0)).setCell ⟨B, 1, none⟩ (.int .i64 b1)).setCell ⟨B, 2, none⟩ (.int .i64 b2)).setCell ⟨B, 3, none⟩ (.int .i64 b3)) B [b0, b1, b2, b3] := by
  have h1 := NBox.put (zs := [a0, a1, a2, a3]) h 0 b0
  have h2 := NBox.put (zs := [b0, a1, a2, a3]) h1 1 b1
  have h3 := NBox.put (zs := [b0, b1, a2, a3]) h2 2 b2
  have h4 := NBox.put (zs := [b0, b1, b2, a3]) h3 3 b3
  exact h4
set_option maxRecDepth 20000 in
set_option maxHeartbeats 4000000 in
theorem listC2_any (x0 x1 : Int) (w : World) :
    Calls Try.prog 103 #[.agg #[.int .i64 x0, .int .i64 x1]] w fun e w' => MadeInts w [x0, x1] e w' := by
  obtain ⟨i0, hi, hz0, hz1, hz2⟩ := info_parts Try.infoInt
  have HB := hid hz2
  have HX := hid (NBox.new w [x0, x1] #[.int .i64 x0, .int .i64 x1] 71 rfl)
  have HLA := hid (Later.alloc w (.cells #[.int .i64 x0, .int .i64 x1] 71))
  have c0 := (HX.out 0 x0 rfl).1
  have c1 := (HX.out 1 x1 rfl).1
  obtain ⟨zs, hzs⟩ : ∃ zs, [x0, x1] = zs := ⟨_, rfl⟩
  rw [hzs] at HX ⊢
  have HZL := hid (show zs.length = 2 by rw [← hzs]; rfl)
  clear hzs
  go_enter Try.func103, Try.ntmps103
  obtain ⟨w0, hw0⟩ : ∃ w0, w.alloc (.cells #[.int .i64 x0, .int .i64 x1] 71) = w0 := ⟨_, rfl⟩
  have HW0 := hid (show w0.heap.size = w.heap.size + 1 by rw [← hw0]; simp)
  rw [hw0] at HX HLA c0 c1
  go_wp2_with (at_make; refine wpList_make_full _ rfl _ _ 33 rfl w.heap.size 3 i0 (.int .i64 0) 1 Try.underlying33 hi hz0 hz1 _ _ _ _ 2 rfl rfl rfl rfl ?b2 ?b3 ?b4 ?_)
  case b2 => rw [HB.out]; omega
  case b3 => unfold maxLen; omega
  case b4 => rw [HW0.out]; omega
  intro w1 hown hgrow
  have hL1 : Later w0 w1 := (Below.refl _ _).grown hgrow (Nat.le_refl _) (by simp)
  have HL := hid (HLA.out.trans hL1)
  have HX1 := hid (HX.out.keep (hL1.block w.heap.size (by rw [HW0.out]; omega)))
  have HF := hid (show Filled w.heap.size 3 w1 (.slice (some ⟨w0.heap.size, 0, none⟩) 2 2) 2 0 (zs.map (Value.int .i64)) from ⟨_, hown, by simp⟩)
  obtain ⟨s0, hs0⟩ : ∃ s, w0.heap.size = s := ⟨_, rfl⟩
  rw [hs0] at HF HW0 ⊢
  have HWS := hid HW0.out
  clear hown hgrow hL1 c0 c1 HLA HX hw0 hs0 HW0
  go_wp2
  go_loopw [11] (fun i wr => ∃ k : Nat, k ≤ 2 ∧ i = .int .i64 k ∧ Filled w.heap.size 3 wr (.slice (some ⟨s0, 0, none⟩) 2 2) 2 k (zs.map (Value.int .i64)) ∧ NBox wr w.heap.size zs ∧ Later w wr)
    (fun i _ => 2 - (intOf i).toNat)
  case atStart => exact ⟨0, Nat.zero_le _, rfl, HF.out, HX1.out, HL.out⟩
  case round =>
    clear HF HX1 HL
    obtain ⟨k, hk, rfl, hFk, hXk, hLk⟩ := hrel
    by_cases hlt : (k : Int) < 2
    · have hkN : k < 2 := by omega
      obtain ⟨z, hz⟩ : ∃ z, zs[k]? = some z := ⟨zs[k]'(by rw [HZL.out]; omega), by simp [HZL.out, hkN]⟩
      have hcell := (hXk k z hz).1
      obtain ⟨⟨u0, hu0⟩, hfr⟩ := hFk.at hkN
      have HF := hid (hFk.step hkN (u := .int .i64 z) (by simp [hz]))
      have HL := hid (show Later w (wr.setCell ⟨s0, k, none⟩ (.int .i64 z)) from hLk.setCell (by have := HWS.out; simp only; omega) _)
      have HX := hid (hXk.keep (heap_setCell_other wr ⟨s0, k, none⟩ w.heap.size (.int .i64 z) (by have := HWS.out; simp only; omega)))
      clear hFk hXk hLk hz
      go_wp2
      go_roundw
      case rel => exact ⟨k + 1, by omega, by go_num, HF.out, HX.out, HL.out⟩
      case measure => simp [intOf]; omega
    · have hke : k = 2 := by omega
      subst hke
      go_wp2
      go_ret
      have ho := hFk.full (by simp [HZL.out])
      exact ⟨_, rfl, ⟨by rw [HZL.out]; exact ho, fun b hb => (ho.lt b hb).2⟩, hLk⟩
set_option maxRecDepth 20000 in
set_option maxHeartbeats 4000000 in
theorem listC4_any (x0 x1 x2 x3 : Int) (w : World) :
    Calls Try.prog 117 #[.agg #[.int .i64 x0, .int .i64 x1, .int .i64 x2, .int .i64 x3]] w fun e w' => MadeInts w [x0, x1, x2, x3] e w' := by
  obtain ⟨i0, hi, hz0, hz1, hz2⟩ := info_parts Try.infoInt
  have HB := hid hz2
  have HX := hid (NBox.new w [x0, x1, x2, x3] #[.int .i64 x0, .int .i64 x1, .int .i64 x2, .int .i64 x3] 82 rfl)
  have HLA := hid (Later.alloc w (.cells #[.int .i64 x0, .int .i64 x1, .int .i64 x2, .int .i64 x3] 82))
  have c0 := (HX.out 0 x0 rfl).1
  have c1 := (HX.out 1 x1 rfl).1
  have c2 := (HX.out 2 x2 rfl).1
  have c3 := (HX.out 3 x3 rfl).1
  obtain ⟨zs, hzs⟩ : ∃ zs, [x0, x1, x2, x3] = zs := ⟨_, rfl⟩
  rw [hzs] at HX ⊢
  have HZL := hid (show zs.length = 4 by rw [← hzs]; rfl)
  clear hzs
  go_enter Try.func117, Try.ntmps117
  obtain ⟨w0, hw0⟩ : ∃ w0, w.alloc (.cells #[.int .i64 x0, .int .i64 x1, .int .i64 x2, .int .i64 x3] 82) = w0 := ⟨_, rfl⟩
  have HW0 := hid (show w0.heap.size = w.heap.size + 1 by rw [← hw0]; simp)
  rw [hw0] at HX HLA c0 c1 c2 c3
  go_wp2_with (at_make; refine wpList_make_full _ rfl _ _ 33 rfl w.heap.size 3 i0 (.int .i64 0) 1 Try.underlying33 hi hz0 hz1 _ _ _ _ 4 rfl rfl rfl rfl ?b2 ?b3 ?b4 ?_)
  case b2 => rw [HB.out]; omega
  case b3 => unfold maxLen; omega
  case b4 => rw [HW0.out]; omega
  intro w1 hown hgrow
  have hL1 : Later w0 w1 := (Below.refl _ _).grown hgrow (Nat.le_refl _) (by simp)
  have HL := hid (HLA.out.trans hL1)
  have HX1 := hid (HX.out.keep (hL1.block w.heap.size (by rw [HW0.out]; omega)))
  have HF := hid (show Filled w.heap.size 3 w1 (.slice (some ⟨w0.heap.size, 0, none⟩) 4 4) 4 0 (zs.map (Value.int .i64)) from ⟨_, hown, by simp⟩)
  obtain ⟨s0, hs0⟩ : ∃ s, w0.heap.size = s := ⟨_, rfl⟩
  rw [hs0] at HF HW0 ⊢
  have HWS := hid HW0.out
  clear hown hgrow hL1 c0 c1 c2 c3 HLA HX hw0 hs0 HW0
  go_wp2
  go_loopw [11] (fun i wr => ∃ k : Nat, k ≤ 4 ∧ i = .int .i64 k ∧ Filled w.heap.size 3 wr (.slice (some ⟨s0, 0, none⟩) 4 4) 4 k (zs.map (Value.int .i64)) ∧ NBox wr w.heap.size zs ∧ Later w wr)
    (fun i _ => 4 - (intOf i).toNat)
  case atStart => exact ⟨0, Nat.zero_le _, rfl, HF.out, HX1.out, HL.out⟩
  case round =>
    clear HF HX1 HL
    obtain ⟨k, hk, rfl, hFk, hXk, hLk⟩ := hrel
    by_cases hlt : (k : Int) < 4
    · have hkN : k < 4 := by omega
      obtain ⟨z, hz⟩ : ∃ z, zs[k]? = some z := ⟨zs[k]'(by rw [HZL.out]; omega), by simp [HZL.out, hkN]⟩
      have hcell := (hXk k z hz).1
      obtain ⟨⟨u0, hu0⟩, hfr⟩ := hFk.at hkN
      have HF := hid (hFk.step hkN (u := .int .i64 z) (by simp [hz]))
      have HL := hid (show Later w (wr.setCell ⟨s0, k, none⟩ (.int .i64 z)) from hLk.setCell (by have := HWS.out; simp only; omega) _)
      have HX := hid (hXk.keep (heap_setCell_other wr ⟨s0, k, none⟩ w.heap.size (.int .i64 z) (by have := HWS.out; simp only; omega)))
      clear hFk hXk hLk hz
      go_wp2
      go_roundw
      case rel => exact ⟨k + 1, by omega, by go_num, HF.out, HX.out, HL.out⟩
      case measure => simp [intOf]; omega
    · have hke : k = 4 := by omega
      subst hke
      go_wp2
      go_ret
      have ho := hFk.full (by simp [HZL.out])
      exact ⟨_, rfl, ⟨by rw [HZL.out]; exact ho, fun b hb => (ho.lt b hb).2⟩, hLk⟩
end Go.Proofs.Ytofmmegpadojlaa
