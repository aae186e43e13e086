/- Lists of 3 squares in the program: as a slice, and in how many ways. -/
import Derived.Test.YtcgdegmhajfbaabSqT3
import Derived.Deep.QuietTactic
import Derived.BigQuiet
namespace Go.Proofs.Ytcgdegmhajfbaab
open Go.RowKit Go.Shelf

set_option maxRecDepth 20000 in
set_option maxHeartbeats 4000000 in
theorem list3_any (x0 x1 x2 : Int) (w : World) :
    Calls Try.prog 51 #[.agg #[.int .i64 x0, .int .i64 x1, .int .i64 x2]] w fun e w' => MadeInts w [x0, x1, x2] e w' := by
  obtain ⟨i0, hi, hz0, hz1, hz2⟩ := info_parts Try.infoInt
  have HB := hid hz2
  have HX := hid (SBox.new w [x0, x1, x2] #[.int .i64 x0, .int .i64 x1, .int .i64 x2] 61 rfl)
  have HLA := hid (Later.alloc w (.cells #[.int .i64 x0, .int .i64 x1, .int .i64 x2] 61))
  have c0 := (HX.out 0 x0 rfl).1
  have c1 := (HX.out 1 x1 rfl).1
  have c2 := (HX.out 2 x2 rfl).1
  obtain ⟨zs, hzs⟩ : ∃ zs, [x0, x1, x2] = zs := ⟨_, rfl⟩
  rw [hzs] at HX ⊢
  have HZL := hid (show zs.length = 3 by rw [← hzs]; rfl)
  clear hzs
  go_enter Try.func51, Try.ntmps51
  obtain ⟨w0, hw0⟩ : ∃ w0, w.alloc (.cells #[.int .i64 x0, .int .i64 x1, .int .i64 x2] 61) = w0 := ⟨_, rfl⟩
  have HW0 := hid (show w0.heap.size = w.heap.size + 1 by rw [← hw0]; simp)
  rw [hw0] at HX HLA c0 c1 c2
  go_wp2_with (at_make; refine wpList_make_full _ rfl _ _ 22 rfl w.heap.size 3 i0 (.int .i64 0) 1 Try.underlying22 hi hz0 hz1 _ _ _ _ 3 rfl rfl rfl rfl ?b2 ?b3 ?b4 ?_)
  case b2 => rw [HB.out]; omega
  case b3 => unfold maxLen; omega
  case b4 => rw [HW0.out]; omega
  intro w1 hown hgrow
  have hL1 : Later w0 w1 := (Below.refl _ _).grown hgrow (Nat.le_refl _) (by simp)
  have HL := hid (HLA.out.trans hL1)
  have HX1 := hid (HX.out.keep (hL1.block w.heap.size (by rw [HW0.out]; omega)))
  have HF := hid (show Filled w.heap.size 3 w1 (.slice (some ⟨w0.heap.size, 0, none⟩) 3 3) 3 0 (zs.map (Value.int .i64)) from ⟨_, hown, by simp⟩)
  obtain ⟨s0, hs0⟩ : ∃ s, w0.heap.size = s := ⟨_, rfl⟩
  rw [hs0] at HF HW0 ⊢
  have HWS := hid HW0.out
  clear hown hgrow hL1 c0 c1 c2 HLA HX hw0 hs0 HW0
  go_wp2
  go_loopw [11] (fun i wr => ∃ k : Nat, k ≤ 3 ∧ i = .int .i64 k ∧ Filled w.heap.size 3 wr (.slice (some ⟨s0, 0, none⟩) 3 3) 3 k (zs.map (Value.int .i64)) ∧ SBox wr w.heap.size zs ∧ Later w wr)
    (fun i _ => 3 - (intOf i).toNat)
  case atStart => exact ⟨0, Nat.zero_le _, rfl, HF.out, HX1.out, HL.out⟩
  case round =>
    clear HF HX1 HL
    obtain ⟨k, hk, rfl, hFk, hXk, hLk⟩ := hrel
    by_cases hlt : (k : Int) < 3
    · have hkN : k < 3 := by omega
      obtain ⟨z, hz⟩ : ∃ z, zs[k]? = some z := ⟨zs[k]'(by rw [HZL.out]; omega), by simp [HZL.out, hkN]⟩
      have hcell := (hXk k z hz).1
      obtain ⟨⟨u0, hu0⟩, hfr⟩ := hFk.at hkN
      have HF := hid (hFk.step hkN (u := .int .i64 z) (by simp [hz]))
      have HL := hid (show Later w (wr.setCell ⟨s0, k, none⟩ (.int .i64 z)) from hLk.setCell (by have := HWS.out; simp only; omega) _)
      have HX := hid (hXk.keep (heap_setCell_other wr ⟨s0, k, none⟩ w.heap.size (.int .i64 z) (by have := HWS.out; simp only; omega)))
      clear hFk hXk hLk hz
      go_wp2
      go_roundw
      case rel => exact ⟨k + 1, by omega, by go_num, HF.out, HX.out, HL.out⟩
      case measure => simp [intOf]; omega
    · have hke : k = 3 := by omega
      subst hke
      go_wp2
      go_ret
      have ho := hFk.full (by simp [HZL.out])
      exact ⟨_, rfl, ⟨by rw [HZL.out]; exact ho, fun b hb => (ho.lt b hb).2⟩, hLk⟩
end Go.Proofs.Ytcgdegmhajfbaab
