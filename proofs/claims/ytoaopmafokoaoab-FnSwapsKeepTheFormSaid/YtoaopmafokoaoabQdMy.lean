/- Four curvatures: the matrix of a swap (the program). -/
import Derived.Test.YtoaopmafokoaoabQdMx
namespace Go.Proofs.Ytoaopmafokoaoab
open Go.RowKit

theorem set_md (b : Nat) {p q r s : Int} (h : [0, 0, 0, 0].set b (1 : Int) = [p, q, r, s]) : Md p q r s := by
  by_cases h4 : b < 4
  · have h5 : b = 0 ∨ b = 1 ∨ b = 2 ∨ b = 3 := by omega
    rcases h5 with rfl | rfl | rfl | rfl <;> simp at h <;> obtain ⟨rfl, rfl, rfl, rfl⟩ := h <;> exact ⟨by omega, by omega, by omega, by omega, by omega, by omega, by omega, by omega⟩
  · rw [List.set_eq_of_length_le (by simp; omega)] at h
    simp at h
    obtain ⟨rfl, rfl, rfl, rfl⟩ := h
    exact ⟨by omega, by omega, by omega, by omega, by omega, by omega, by omega, by omega⟩
set_option maxRecDepth 20000 in
set_option maxHeartbeats 2000000 in
theorem swapEntry_any (i a b C : Nat) (w : World) (hi : i < 4) (ha : a < 4) (hb : b < 4) (hc : w.cell? ⟨C, 0, none⟩ = some (.int .i64 i)) :
    Calls Try.prog 72 #[.int .i64 a, .int .i64 b, .pointer (some ⟨C, 0, none⟩)] w fun e w' => e = .returned (.int .i64 (smF i a b)) ∧ Later w w' := by
  have HF := hid (sm_swap i hi a ha b hb)
  have hA := Later.alloc w (.cells #[.int .i64 0, .int .i64 0, .int .i64 0, .int .i64 0] 62)
  have HB := hid (QBox.new w 0 0 0 0)
  have HL := hid hA
  have hcC := hA.cell hc
  obtain ⟨cb, fb⟩ := (QBox.new w 0 0 0 0).at b hb
  obtain ⟨z, hz⟩ : ∃ z, [(0 : Int), 0, 0, 0].getD b 0 = z := ⟨_, rfl⟩
  rw [hz] at cb
  have HBB := hid hb
  have HII := hid hi
  have HCL := hid (World.block_lt_of_cell? w ⟨C, 0, none⟩ hc)
  have hbI : (b : Int) < 4 := by omega
  have hb0 : (0 : Int) ≤ (b : Int) := by omega
  have HAA := hid ha
  clear hA hc hz hb hi ha
  go_enter Try.func72, Try.ntmps72
  go_upto_region 2 with fail
  generalize w.alloc (.cells #[.int .i64 0, .int .i64 0, .int .i64 0, .int .i64 0] 62) = w1 at HB HL hcC cb fb ⊢
  obtain ⟨B, hB⟩ : ∃ B, w.heap.size = B := ⟨_, rfl⟩
  have HBW := hid (show w.heap.size ≤ B by omega)
  rw [hB] at HB HCL cb fb ⊢
  clear hB
  obtain ⟨p, q, r, s, he, hb4⟩ := HB.out.one b HBB.out 1
  have HE := hid he
  have HM := hid (set_md b he)
  have HL4 := hid (show Later w (w1.setCell ⟨B, b, none⟩ (.int .i64 1)) from HL.out.setCell HBW.out _)
  have hC4 : (w1.setCell ⟨B, b, none⟩ (.int .i64 1)).cell? ⟨C, 0, none⟩ = some (.int .i64 i) := (World.cell?_setCell_other _ _ _ _ (fun e => by have h1 := congrArg Addr.block e; have h2 := HCL.out; simp at h1 h2; omega)).trans hcC
  obtain ⟨c0, c1, c2, c3, _, _, _, _⟩ := hb4
  clear he
  go_wp2_with fail
  refine (swapped_any p q r s i _ HII.out HM.out).mono ?_
  rintro e w5 ⟨p', q', r', s', hsw, rfl, hL5⟩
  have HL5 := hid (HL4.out.trans hL5)
  have hf := HF.out
  rw [HE.out, hsw] at hf
  have HFF := hid hf
  clear hL5 hsw hf c0 c1 c2 c3 cb fb hcC hC4
  have j0 : ∀ w, (Instr.index 62 (.agg #[.int .i64 p', .int .i64 q', .int .i64 r', .int .i64 s']) (.int .i64 0)).run Try.prog w = .ok (.int .i64 p') w := fun _ => by kernel_rfl
  have j1 : ∀ w, (Instr.index 62 (.agg #[.int .i64 p', .int .i64 q', .int .i64 r', .int .i64 s']) (.int .i64 1)).run Try.prog w = .ok (.int .i64 q') w := fun _ => by kernel_rfl
  have j2 : ∀ w, (Instr.index 62 (.agg #[.int .i64 p', .int .i64 q', .int .i64 r', .int .i64 s']) (.int .i64 2)).run Try.prog w = .ok (.int .i64 r') w := fun _ => by kernel_rfl
  have j3 : ∀ w, (Instr.index 62 (.agg #[.int .i64 p', .int .i64 q', .int .i64 r', .int .i64 s']) (.int .i64 3)).run Try.prog w = .ok (.int .i64 s') w := fun _ => by kernel_rfl
  have jj : ∀ w, (Instr.index 62 (.agg #[.int .i64 p', .int .i64 q', .int .i64 r', .int .i64 s']) (.int .i64 a)).run Try.prog w = .ok (.int .i64 (smF i a b)) w := by
    intro w
    rw [← HFF.out]
    have h4 : a = 0 ∨ a = 1 ∨ a = 2 ∨ a = 3 := by have := HAA.out; omega
    rcases h4 with rfl | rfl | rfl | rfl
    · exact j0 w
    · exact j1 w
    · exact j2 w
    · exact j3 w
  clear j0 j1 j2 j3
  go_wp2_with fail
  go_ret
  exact ⟨rfl, HL5.out⟩
set_option maxRecDepth 20000 in
set_option maxHeartbeats 4000000 in
theorem implSwapMatrix_any (i : Int) (w : World) :
    Calls Try.prog 31 #[.int .i64 i] w fun e w' => MatAns w (smAns i) e w' := by
  have hA := Later.alloc w (.cells #[.int .i64 i] 3)
  have hA2 := Later.alloc (w.alloc (.cells #[.int .i64 i] 3)) (Obj.cells #[Value.slice none 0 0] 44)
  have hsz : (w.alloc (.cells #[.int .i64 i] 3)).heap.size = w.heap.size + 1 := by simp
  have hci : (w.alloc (.cells #[.int .i64 i] 3)).cell? ⟨w.heap.size, 0, none⟩ = some (.int .i64 i) := by simp [go_sem]
  have hi2 := hA2.cell hci
  have hb0 : Box ((w.alloc (.cells #[.int .i64 i] 3)).alloc (Obj.cells #[Value.slice none 0 0] 44)) (w.heap.size + 1) (.slice none 0 0) := by rw [← hsz]; exact ⟨by simp [go_sem], by simp [go_sem]⟩
  have HL0 := hid (hA.trans hA2)
  have HB0 := hid hb0
  have HBW := hid (show w.heap.size ≤ w.heap.size + 1 by omega)
  clear hA hA2 hsz hci
  obtain ⟨hc0, hf0⟩ := hb0
  cases hi : within 0 3 i
  · have HA := hid (show smAns i = none by unfold smAns; rw [hi]; simp)
    by_cases h0 : i < 0
    · clear hi
      go_enter Try.func31, Try.ntmps31
      go_wp2_with fail
      refine bodyPost_ret (v := .tuple #[.agg #[.slice none 0 0], .bool false]) (by simp [results, Try.results31, go_sem, hc0]) rfl ⟨_, by rw [HA.out]; rfl, by rw [HA.out]; exact OwnRows.empty _ _ _, ?_⟩
      first | exact HL0.out | exact HL0.out.setCell (by simp) _
    · have h4 : 4 ≤ i := by simp [within] at hi; omega
      have hd0 : decide (i < 0) = false := decide_eq_false h0
      clear hi
      go_enter Try.func31, Try.ntmps31
      go_wp2_with fail
      refine bodyPost_ret (v := .tuple #[.agg #[.slice none 0 0], .bool false]) (by simp [results, Try.results31, go_sem, hc0]) rfl ⟨_, by rw [HA.out]; rfl, by rw [HA.out]; exact OwnRows.empty _ _ _, ?_⟩
      first | exact HL0.out | exact HL0.out.setCell (by simp) _
  · have hib := within03.1 hi
    obtain ⟨j, rfl⟩ : ∃ j : Nat, i = (j : Int) := ⟨i.toNat, by omega⟩
    have HJ := hid (show j < 4 by omega)
    have HA := hid (show smAns (j : Int) = ifGood (mk 4 (smF j)) by rw [sm_good j HJ.out]; unfold smAns; rw [if_pos hi]; simp)
    have hj4 : ¬ (4 : Int) ≤ (j : Int) := by omega
    have hj0 : ¬ (j : Int) < 0 := by omega
    clear hi hib
    go_enter Try.func31, Try.ntmps31
    go_wp2_with fail
    generalize (w.alloc (.cells #[.int .i64 j] 3)).alloc (Obj.cells #[Value.slice none 0 0] 44) = w1 at HL0 HB0 hi2 hc0 hf0 ⊢
    have HI2 := hid hi2
    refine (gridOf_pure 4 72 #[.pointer (some ⟨w.heap.size, 0, none⟩)] (smF j) _ (by omega) Try.call72 (fun a b w2 ha hb hL => swapEntry_any j a b w.heap.size w2 HJ.out ha hb (hL.cell HI2.out))).mono ?_
    rintro e w2 ⟨v2, rfl, ho2, hL2⟩
    have HO := hid ho2
    have HL2 := hid hL2
    clear ho2 hL2 hc0 hf0 hi2
    go_wp2_with fail
    refine (matrixOf_ans _ _ (mk 4 (smF j)) _ HL2.out HO.out).mono ?_
    rintro e w3 ⟨v3, rfl, ho3, hL3⟩
    obtain ⟨hc0, hf0⟩ := HB0.out.later hL3
    have HL3 := hid (HL0.out.trans hL3)
    have HLW := hid HL0.out.size
    have HLB := hid (show w.heap.size + 1 < w1.heap.size from HB0.out.lt)
    obtain ⟨a, cap, rfl, _⟩ := ho3.shape
    have HO3 := hid ho3
    clear hL3 ho3
    go_wp2_with fail
    refine bodyPost_ret (v := .tuple #[.agg #[.slice a ((ifGood (mk 4 (smF j))).getD []).length cap], .bool (ifGood (mk 4 (smF j))).isSome]) (by simp [results, Try.results31, go_sem, hc0]) rfl ⟨_, by rw [HA.out], ?_, ?_⟩
    · rw [HA.out]
      exact (HO3.out.setCell (a := ⟨w.heap.size + 1, 0, none⟩) (by simp; exact HLB.out) _).wide HLW.out (by simp [World.setCell])
    · exact HL3.out.setCell (by simp) _
end Go.Proofs.Ytoaopmafokoaoab
