/- Lists of 2 squares in the program: as a slice, and in how many ways. -/
import Derived.Test.YtofmmegpadojlaaSqT
import Derived.Deep.QuietTactic
import Derived.BigQuiet
namespace Go.Proofs.Ytofmmegpadojlaa
open Go.RowKit Go.Shelf

set_option maxRecDepth 20000 in
set_option maxHeartbeats 4000000 in
theorem list2_any (x0 x1 : Int) (w : World) :
    Calls Try.prog 103 #[.agg #[.int .i64 x0, .int .i64 x1]] w fun e w' => MadeInts w [x0, x1] e w' := by
  obtain ⟨i0, hi, hz0, hz1, hz2⟩ := info_parts Try.infoInt
  have HB := hid hz2
  have HX := hid (SBox.new w [x0, x1] #[.int .i64 x0, .int .i64 x1] 71 rfl)
  have HLA := hid (Later.alloc w (.cells #[.int .i64 x0, .int .i64 x1] 71))
  have c0 := (HX.out 0 x0 rfl).1
  have c1 := (HX.out 1 x1 rfl).1
  obtain ⟨zs, hzs⟩ : ∃ zs, [x0, x1] = zs := ⟨_, rfl⟩
  rw [hzs] at HX ⊢
  have HZL := hid (show zs.length = 2 by rw [← hzs]; rfl)
  clear hzs
  go_enter Try.func103, Try.ntmps103
  obtain ⟨w0, hw0⟩ : ∃ w0, w.alloc (.cells #[.int .i64 x0, .int .i64 x1] 71) = w0 := ⟨_, rfl⟩
  have HW0 := hid (show w0.heap.size = w.heap.size + 1 by rw [← hw0]; simp)
  rw [hw0] at HX HLA c0 c1
  go_wp2_with (at_make; refine wpList_make_full _ rfl _ _ 33 rfl w.heap.size 3 i0 (.int .i64 0) 1 Try.underlying33 hi hz0 hz1 _ _ _ _ 2 rfl rfl rfl rfl ?b2 ?b3 ?b4 ?_)
  case b2 => rw [HB.out]; omega
  case b3 => unfold maxLen; omega
  case b4 => rw [HW0.out]; omega
  intro w1 hown hgrow
  have hL1 : Later w0 w1 := (Below.refl _ _).grown hgrow (Nat.le_refl _) (by simp)
  have HL := hid (HLA.out.trans hL1)
  have HX1 := hid (HX.out.keep (hL1.block w.heap.size (by rw [HW0.out]; omega)))
  have HF := hid (show Filled w.heap.size 3 w1 (.slice (some ⟨w0.heap.size, 0, none⟩) 2 2) 2 0 (zs.map (Value.int .i64)) from ⟨_, hown, by simp⟩)
  obtain ⟨s0, hs0⟩ : ∃ s, w0.heap.size = s := ⟨_, rfl⟩
  rw [hs0] at HF HW0 ⊢
  have HWS := hid HW0.out
  clear hown hgrow hL1 c0 c1 HLA HX hw0 hs0 HW0
  go_wp2
  go_loopw [11] (fun i wr => ∃ k : Nat, k ≤ 2 ∧ i = .int .i64 k ∧ Filled w.heap.size 3 wr (.slice (some ⟨s0, 0, none⟩) 2 2) 2 k (zs.map (Value.int .i64)) ∧ SBox wr w.heap.size zs ∧ Later w wr)
    (fun i _ => 2 - (intOf i).toNat)
  case atStart => exact ⟨0, Nat.zero_le _, rfl, HF.out, HX1.out, HL.out⟩
  case round =>
    clear HF HX1 HL
    obtain ⟨k, hk, rfl, hFk, hXk, hLk⟩ := hrel
    by_cases hlt : (k : Int) < 2
    · have hkN : k < 2 := by omega
      obtain ⟨z, hz⟩ : ∃ z, zs[k]? = some z := ⟨zs[k]'(by rw [HZL.out]; omega), by simp [HZL.out, hkN]⟩
      have hcell := (hXk k z hz).1
      obtain ⟨⟨u0, hu0⟩, hfr⟩ := hFk.at hkN
      have HF := hid (hFk.step hkN (u := .int .i64 z) (by simp [hz]))
      have HL := hid (show Later w (wr.setCell ⟨s0, k, none⟩ (.int .i64 z)) from hLk.setCell (by have := HWS.out; simp only; omega) _)
      have HX := hid (hXk.keep (heap_setCell_other wr ⟨s0, k, none⟩ w.heap.size (.int .i64 z) (by have := HWS.out; simp only; omega)))
      clear hFk hXk hLk hz
      go_wp2
      go_roundw
      case rel => exact ⟨k + 1, by omega, by go_num, HF.out, HX.out, HL.out⟩
      case measure => simp [intOf]; omega
    · have hke : k = 2 := by omega
      subst hke
      go_wp2
      go_ret
      have ho := hFk.full (by simp [HZL.out])
      exact ⟨_, rfl, ⟨by rw [HZL.out]; exact ho, fun b hb => (ho.lt b hb).2⟩, hLk⟩
set_option maxRecDepth 20000 in
set_option maxHeartbeats 8000000 in
theorem arrange2_any (x0 x1 : Int) (w : World) (hz : ∀ z ∈ [x0, x1], 0 ≤ z ∧ z ≤ 1000000) :
    Calls Try.prog 124 #[.agg #[.int .i64 x0, .int .i64 x1]] w fun e w' => e = .returned (.int .i64 (signs [x0, x1] : Nat)) ∧ Later w w' := by
  have HX := hid (SBox.new w [x0, x1] #[.int .i64 x0, .int .i64 x1] 71 rfl)
  have HLA := hid (Later.alloc w (.cells #[.int .i64 x0, .int .i64 x1] 71))
  have c0 := (HX.out 0 x0 rfl).1
  have c1 := (HX.out 1 x1 rfl).1
  obtain ⟨zs, hzs⟩ : ∃ zs, [x0, x1] = zs := ⟨_, rfl⟩
  have HZL := hid (show zs.length = 2 by rw [← hzs]; rfl)
  have HBD := hid (sg_bd zs)
  rw [hzs] at HX hz ⊢
  have HS := hid (show (sg zs 2).1 = signs zs by unfold signs; rw [HZL.out])
  have HZ := hid hz
  clear hzs hz
  go_enter Try.func124, Try.ntmps124
  obtain ⟨w0, hw0⟩ : ∃ w0, w.alloc (.cells #[.int .i64 x0, .int .i64 x1] 71) = w0 := ⟨_, rfl⟩
  rw [hw0] at HX HLA c0 c1
  go_wp2_with fail
  clear c0 c1 hw0
  go_loopw [3, 4, 9] (fun s t x wr => ∃ i : Nat, i ≤ 2 ∧ x = .int .i64 i ∧ s = .int .i64 ((sg zs i).1 : Nat) ∧ t = .int .i64 ((sg zs i).2 : Nat) ∧ SBox wr w.heap.size zs ∧ Later w wr) (fun _ _ x _ => 2 - (intOf x).toNat)
  case atStart => exact ⟨0, Nat.zero_le _, rfl, rfl, rfl, HX.out, HLA.out⟩
  case round =>
    obtain ⟨i, hi, rfl, rfl, rfl, hX, hL⟩ := hrel
    by_cases hlt : (i : Int) < 2
    · have hin : i < zs.length := by rw [HZL.out]; omega
      have hiN : i < 2 := by omega
      have hcell := (hX i zs[i] (by simp)).1
      have hzi := HZ.out zs[i] (List.getElem_mem hin)
      obtain ⟨h1, h2⟩ := HBD.out i (by omega)
      have hp := Nat.pow_le_pow_right (show 0 < 10 by omega) (show i ≤ 4 by omega)
      obtain ⟨S, hS⟩ : ∃ S, (sg zs i).1 = S := ⟨_, rfl⟩
      obtain ⟨T, hT⟩ : ∃ T, (sg zs i).2 = T := ⟨_, rfl⟩
      have HT0 := hid (show ¬ (0 : Int) < (i : Int) → T = 0 from fun h => by
        have : i = 0 := by omega
        rw [← hT, this]; rfl)
      have hS4 : S ≤ 10000 := by omega
      have hT4 : T ≤ 4 := by omega
      obtain ⟨z, hzz⟩ : ∃ z, zs[i] = z := ⟨_, rfl⟩
      have hgz : zs.getD i 0 = z := by rw [getD_at zs i hin, hzz]
      rw [hzz] at hzi hcell
      have hSi : 0 ≤ (S : Int) * ((i : Int) + 1) ∧ (S : Int) * ((i : Int) + 1) ≤ 50000 := by
        have := Nat.mul_le_mul hS4 (show i + 1 ≤ 5 by omega)
        rw [show (i : Int) + 1 = ((i + 1 : Nat) : Int) by omega, ← Int.natCast_mul]; omega
      have HX := hid hX
      have HL := hid hL
      have HEQ := hid (fun b hb zb hzb => sg_one zs i b hb zb hzb)
      rw [hS, hT, hgz] at HEQ
      rw [hS, hT]
      clear hS hT hX hL hgz hzz hin h1 h2
      by_cases h0 : (0 : Int) < (i : Int)
      · obtain ⟨y, hy⟩ : ∃ y, zs[i - 1]? = some y := ⟨zs[i - 1]'(by rw [HZL.out]; omega), by simp⟩
        have h0n : 0 < i := by omega
        have h0d : decide ((0 : Int) < (i : Int)) = true := decide_eq_true h0
        have h0e : decide (0 < i) = true := decide_eq_true h0n
        have hcellp := (HX.out (i - 1) y hy).1
        have hgy : zs.getD (i - 1) 0 = y := by rw [List.getD_eq_getElem?_getD, hy]; rfl
        rw [hgy] at HEQ
        have hi1 : ((i : Int) - 1).toNat = i - 1 := by omega
        have hi1b : (0 : Int) ≤ (i : Int) - 1 ∧ (i : Int) - 1 < 2 := by omega
        have hi1c : (i : Int) - 1 = ((i - 1 : Nat) : Int) := by omega
        clear hy hgy
        by_cases hyz : y = z
        · have hyb : (z != y) = false := by simp [hyz]
          by_cases hz0 : z = 0
          · have hzb : (z != 0) = false := by simp [hz0]
            obtain ⟨Q, hQ⟩ : ∃ Q : Nat, S * (i + 1) / (T + 1) = Q := ⟨_, rfl⟩
            have hQ5 : Q ≤ 50000 := by rw [← hQ]; refine Nat.le_trans (Nat.div_le_self _ _) ?_; have := Nat.mul_le_mul hS4 (show i + 1 ≤ 5 by omega); omega
            have q1 : ((S : Int) * ((i : Int) + 1)).tdiv ((T : Int) + 1) = (Q : Int) := by rw [show (S : Int) * ((i : Int) + 1) = ((S * (i + 1) : Nat) : Int) by simp, show ((T : Int) + 1 : Int) = (((T + 1) : Nat) : Int) by simp, tdivN, hQ]
            have q2 : ((S : Int) * ((i : Int) + 1)) / ((T : Int) + 1) = (Q : Int) := by rw [show (S : Int) * ((i : Int) + 1) = ((S * (i + 1) : Nat) : Int) by simp, show ((T : Int) + 1 : Int) = (((T + 1) : Nat) : Int) by simp, ← hQ]; exact (Int.natCast_ediv _ _).symm
            have hz1 : ¬ (T : Int) + 1 = 0 := by omega
            have HE := hid (show sg zs (i + 1) = (Q, T + 1) by rw [HEQ.out true (by rw [decide_eq_true ⟨by omega, hyz⟩]) true (by first | (simp; done) | (simp [hz0]; done) | (simp; omega))]; simp [hQ])
            clear hQ
            go_wp2_with fail
            go_quiet (fail)
            go_wp2_with fail
            go_roundw
            case rel => exact ⟨i + 1, by omega, by go_num, (by first | (rw [HE.out]; done) | (rw [HE.out]; rfl) | (rw [HE.out]; simp; done) | (rw [HE.out]; simp [q3]; done)), (by first | (rw [HE.out]; done) | (rw [HE.out]; rfl) | (rw [HE.out]; simp; done)), HX.out.keep rfl, HL.out.trans (Later.drewN _ _)⟩
            case measure => simp [intOf]; omega
          · have hzb : (z != 0) = true := by simp [hz0]
            obtain ⟨Q, hQ⟩ : ∃ Q : Nat, S * (i + 1) / (T + 1) = Q := ⟨_, rfl⟩
            have hQ5 : Q ≤ 50000 := by rw [← hQ]; refine Nat.le_trans (Nat.div_le_self _ _) ?_; have := Nat.mul_le_mul hS4 (show i + 1 ≤ 5 by omega); omega
            have q1 : ((S : Int) * ((i : Int) + 1)).tdiv ((T : Int) + 1) = (Q : Int) := by rw [show (S : Int) * ((i : Int) + 1) = ((S * (i + 1) : Nat) : Int) by simp, show ((T : Int) + 1 : Int) = (((T + 1) : Nat) : Int) by simp, tdivN, hQ]
            have q2 : ((S : Int) * ((i : Int) + 1)) / ((T : Int) + 1) = (Q : Int) := by rw [show (S : Int) * ((i : Int) + 1) = ((S * (i + 1) : Nat) : Int) by simp, show ((T : Int) + 1 : Int) = (((T + 1) : Nat) : Int) by simp, ← hQ]; exact (Int.natCast_ediv _ _).symm
            have hz1 : ¬ (T : Int) + 1 = 0 := by omega
            have HE := hid (show sg zs (i + 1) = (Q * 2, T + 1) by rw [HEQ.out true (by rw [decide_eq_true ⟨by omega, hyz⟩]) false (by first | (simp; done) | (simp [hz0]; done) | (simp; omega))]; simp [hQ])
            clear hQ
            go_wp2_with fail
            go_quiet (fail)
            go_wp2_with fail
            go_roundw
            case rel => exact ⟨i + 1, by omega, by go_num, (by first | (rw [HE.out]; done) | (rw [HE.out]; rfl) | (rw [HE.out]; simp; done) | (rw [HE.out]; simp [q3]; done)), (by first | (rw [HE.out]; done) | (rw [HE.out]; rfl) | (rw [HE.out]; simp; done)), HX.out.keep rfl, HL.out.trans (Later.drewN _ _)⟩
            case measure => simp [intOf]; omega
        · have hyb : (z != y) = true := by simp; exact fun h => hyz h.symm
          by_cases hz0 : z = 0
          · have hzb : (z != 0) = false := by simp [hz0]
            obtain ⟨Q, hQ⟩ : ∃ Q : Nat, S * (i + 1) / 1 = Q := ⟨_, rfl⟩
            have hQ5 : Q ≤ 50000 := by rw [← hQ]; refine Nat.le_trans (Nat.div_le_self _ _) ?_; have := Nat.mul_le_mul hS4 (show i + 1 ≤ 5 by omega); omega
            have q1 : ((S : Int) * ((i : Int) + 1)).tdiv (1) = (Q : Int) := by rw [show (S : Int) * ((i : Int) + 1) = ((S * (i + 1) : Nat) : Int) by simp, show (1 : Int) = ((1 : Nat) : Int) by simp, tdivN, hQ]
            have q2 : ((S : Int) * ((i : Int) + 1)) / (1) = (Q : Int) := by rw [show (S : Int) * ((i : Int) + 1) = ((S * (i + 1) : Nat) : Int) by simp, show (1 : Int) = ((1 : Nat) : Int) by simp, ← hQ]; exact (Int.natCast_ediv _ _).symm
            have q3 : (S : Int) * ((i : Int) + 1) = (Q : Int) := by rw [← hQ, Nat.div_one]; simp
            have HE := hid (show sg zs (i + 1) = (Q, 1) by rw [HEQ.out false (by rw [decide_eq_false fun h => hyz h.2]) true (by first | (simp; done) | (simp [hz0]; done) | (simp; omega))]; simp [hQ])
            clear hQ
            go_wp2_with fail
            go_quiet (fail)
            go_wp2_with fail
            go_roundw
            case rel => exact ⟨i + 1, by omega, by go_num, (by first | (rw [HE.out]; done) | (rw [HE.out]; rfl) | (rw [HE.out]; simp; done) | (rw [HE.out]; simp [q3]; done)), (by first | (rw [HE.out]; done) | (rw [HE.out]; rfl) | (rw [HE.out]; simp; done)), HX.out.keep rfl, HL.out.trans (Later.drewN _ _)⟩
            case measure => simp [intOf]; omega
          · have hzb : (z != 0) = true := by simp [hz0]
            obtain ⟨Q, hQ⟩ : ∃ Q : Nat, S * (i + 1) / 1 = Q := ⟨_, rfl⟩
            have hQ5 : Q ≤ 50000 := by rw [← hQ]; refine Nat.le_trans (Nat.div_le_self _ _) ?_; have := Nat.mul_le_mul hS4 (show i + 1 ≤ 5 by omega); omega
            have q1 : ((S : Int) * ((i : Int) + 1)).tdiv (1) = (Q : Int) := by rw [show (S : Int) * ((i : Int) + 1) = ((S * (i + 1) : Nat) : Int) by simp, show (1 : Int) = ((1 : Nat) : Int) by simp, tdivN, hQ]
            have q2 : ((S : Int) * ((i : Int) + 1)) / (1) = (Q : Int) := by rw [show (S : Int) * ((i : Int) + 1) = ((S * (i + 1) : Nat) : Int) by simp, show (1 : Int) = ((1 : Nat) : Int) by simp, ← hQ]; exact (Int.natCast_ediv _ _).symm
            have q3 : (S : Int) * ((i : Int) + 1) = (Q : Int) := by rw [← hQ, Nat.div_one]; simp
            have HE := hid (show sg zs (i + 1) = (Q * 2, 1) by rw [HEQ.out false (by rw [decide_eq_false fun h => hyz h.2]) false (by first | (simp; done) | (simp [hz0]; done) | (simp; omega))]; simp [hQ])
            clear hQ
            go_wp2_with fail
            go_quiet (fail)
            go_wp2_with fail
            go_roundw
            case rel => exact ⟨i + 1, by omega, by go_num, (by first | (rw [HE.out]; done) | (rw [HE.out]; rfl) | (rw [HE.out]; simp; done) | (rw [HE.out]; simp [q3]; done)), (by first | (rw [HE.out]; done) | (rw [HE.out]; rfl) | (rw [HE.out]; simp; done)), HX.out.keep rfl, HL.out.trans (Later.drewN _ _)⟩
            case measure => simp [intOf]; omega
      · have hi0 : decide ((0 : Int) < (i : Int)) = false := decide_eq_false h0
        have hi0n : decide (0 < i) = false := decide_eq_false (by omega)
        have hT00 := HT0.out h0
        subst hT00
        by_cases hz0 : z = 0
        · have hzb : (z != 0) = false := by simp [hz0]
          obtain ⟨Q, hQ⟩ : ∃ Q : Nat, S * (i + 1) / 1 = Q := ⟨_, rfl⟩
          have hQ5 : Q ≤ 50000 := by rw [← hQ]; refine Nat.le_trans (Nat.div_le_self _ _) ?_; have := Nat.mul_le_mul hS4 (show i + 1 ≤ 5 by omega); omega
          have q1 : ((S : Int) * ((i : Int) + 1)).tdiv (1) = (Q : Int) := by rw [show (S : Int) * ((i : Int) + 1) = ((S * (i + 1) : Nat) : Int) by simp, show (1 : Int) = ((1 : Nat) : Int) by simp, tdivN, hQ]
          have q2 : ((S : Int) * ((i : Int) + 1)) / (1) = (Q : Int) := by rw [show (S : Int) * ((i : Int) + 1) = ((S * (i + 1) : Nat) : Int) by simp, show (1 : Int) = ((1 : Nat) : Int) by simp, ← hQ]; exact (Int.natCast_ediv _ _).symm
          have q3 : (S : Int) * ((i : Int) + 1) = (Q : Int) := by rw [← hQ, Nat.div_one]; simp
          have HE := hid (show sg zs (i + 1) = (Q, 1) by rw [HEQ.out false (by rw [decide_eq_false fun h => h0 (by omega)]) true (by first | (simp; done) | (simp [hz0]; done) | (simp; omega))]; simp [hQ])
          clear hQ
          go_wp2_with fail
          go_quiet (fail)
          go_wp2_with fail
          go_roundw
          case rel => exact ⟨i + 1, by omega, by go_num, (by first | (rw [HE.out]; done) | (rw [HE.out]; rfl) | (rw [HE.out]; simp; done) | (rw [HE.out]; simp [q3]; done)), (by first | (rw [HE.out]; done) | (rw [HE.out]; rfl) | (rw [HE.out]; simp; done)), HX.out.keep rfl, HL.out.trans (Later.drewN _ _)⟩
          case measure => simp [intOf]; omega
        · have hzb : (z != 0) = true := by simp [hz0]
          obtain ⟨Q, hQ⟩ : ∃ Q : Nat, S * (i + 1) / 1 = Q := ⟨_, rfl⟩
          have hQ5 : Q ≤ 50000 := by rw [← hQ]; refine Nat.le_trans (Nat.div_le_self _ _) ?_; have := Nat.mul_le_mul hS4 (show i + 1 ≤ 5 by omega); omega
          have q1 : ((S : Int) * ((i : Int) + 1)).tdiv (1) = (Q : Int) := by rw [show (S : Int) * ((i : Int) + 1) = ((S * (i + 1) : Nat) : Int) by simp, show (1 : Int) = ((1 : Nat) : Int) by simp, tdivN, hQ]
          have q2 : ((S : Int) * ((i : Int) + 1)) / (1) = (Q : Int) := by rw [show (S : Int) * ((i : Int) + 1) = ((S * (i + 1) : Nat) : Int) by simp, show (1 : Int) = ((1 : Nat) : Int) by simp, ← hQ]; exact (Int.natCast_ediv _ _).symm
          have q3 : (S : Int) * ((i : Int) + 1) = (Q : Int) := by rw [← hQ, Nat.div_one]; simp
          have HE := hid (show sg zs (i + 1) = (Q * 2, 1) by rw [HEQ.out false (by rw [decide_eq_false fun h => h0 (by omega)]) false (by first | (simp; done) | (simp [hz0]; done) | (simp; omega))]; simp [hQ])
          clear hQ
          go_wp2_with fail
          go_quiet (fail)
          go_wp2_with fail
          go_roundw
          case rel => exact ⟨i + 1, by omega, by go_num, (by first | (rw [HE.out]; done) | (rw [HE.out]; rfl) | (rw [HE.out]; simp; done) | (rw [HE.out]; simp [q3]; done)), (by first | (rw [HE.out]; done) | (rw [HE.out]; rfl) | (rw [HE.out]; simp; done)), HX.out.keep rfl, HL.out.trans (Later.drewN _ _)⟩
          case measure => simp [intOf]; omega
    · have hie : i = 2 := by omega
      have HE := hid (show (sg zs i).1 = signs zs by rw [hie]; exact HS.out)
      clear hie
      go_wp2_with fail
      go_ret
      exact ⟨by rw [← HE.out]; rfl, hL⟩
end Go.Proofs.Ytofmmegpadojlaa
