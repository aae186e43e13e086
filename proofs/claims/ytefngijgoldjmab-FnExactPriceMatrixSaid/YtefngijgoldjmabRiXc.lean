/- The matrices of both trees: BergMatrix, PriceMatrix in the program. -/
import Derived.Test.YtefngijgoldjmabRiXb
namespace Go.Proofs.Ytefngijgoldjmab
open Go.RowKit

theorem bergM_out (k : Int) (h : within 0 2 k = false) : bergM k = none := by
  have hn : ¬ (0 ≤ k ∧ k ≤ 2) := fun hh => by simp [within, hh.1, hh.2] at h
  unfold bergM
  rw [if_neg (by omega), if_neg (by omega), if_neg (by omega)]
set_option maxRecDepth 20000 in
set_option maxHeartbeats 2000000 in
theorem implBergMatrix_any (k : Int) (w : World) : Calls Try.prog 21 #[.int .i64 k] w fun e w' => MatAns w (bergM k) e w' := by
  obtain ⟨V, hV⟩ : ∃ V, Value.agg (tree3 (bergT 0) (bergT 1) (bergT 2)).toArray = V := ⟨_, rfl⟩
  have HT := hid (fun w0 => bergTree_any w0)
  have HM := hid (fun w0 => matrixAt_any (bergT 0) (bergT 1) (bergT 2) treeBerg.good k (bergM k) w0 (bergM_out k) (fun h => by subst h; decide) (fun h => by subst h; decide) (fun h => by subst h; decide))
  rw [hV] at HT HM
  obtain ⟨o, ho⟩ : ∃ o, bergM k = o := ⟨_, rfl⟩
  rw [ho] at HM ⊢
  have HL := hid (Later.alloc w (.cells #[.slice none 0 0] 32))
  have HX := hid (show Box (w.alloc (.cells #[.slice none 0 0] 32)) w.heap.size (.slice none 0 0) from ⟨by simp [go_sem], by simp [go_sem]⟩)
  have HSZ := hid (show (w.alloc (.cells #[.slice none 0 0] 32)).heap.size = w.heap.size + 1 by simp)
  clear hV ho
  go_enter Try.func21, Try.ntmps21
  go_wp2_with fail
  generalize w.alloc (.cells #[.slice none 0 0] 32) = w1 at HL HX HSZ ⊢
  refine (HT.out _).mono ?_
  rintro e w2 ⟨rfl, hL2⟩
  have HL2 := hid (HL.out.trans hL2)
  have HX2 := hid (HX.out.later hL2)
  have HS2 := hid hL2.size
  clear hL2
  go_wp2_with fail
  refine (HM.out _).mono ?_
  rintro e w3 ⟨v3, rfl, ho3, hL3⟩
  have HO3 := hid ho3
  have HL3 := hid (HL2.out.trans hL3)
  have HX3 := hid (HX2.out.later hL3)
  have HS3 := hid hL3.size
  obtain ⟨r0, f0⟩ := HX3.out
  obtain ⟨a3, c3, rfl, _⟩ := ho3.shape
  clear ho3 hL3
  go_wp2_with fail
  have HO4 := hid (HO3.out.setCell (a := ⟨w.heap.size, 0, none⟩) (by have := HSZ.out; have := HS2.out; simp; omega) (.slice a3 (o.getD []).length c3))
  have e0 := (HX3.out.set (.slice a3 (o.getD []).length c3)).1
  have HL4 := hid (show Later w (w3.setCell ⟨w.heap.size, 0, none⟩ (.slice a3 (o.getD []).length c3)) from Below.setCell HL3.out (Nat.le_refl _) _)
  have HS4 := hid (show w3.heap.size ≤ (w3.setCell ⟨w.heap.size, 0, none⟩ (.slice a3 (o.getD []).length c3)).heap.size by simp)
  generalize w3.setCell ⟨w.heap.size, 0, none⟩ (.slice a3 (o.getD []).length c3) = w4 at HO4 e0 HL4 HS4 ⊢
  clear r0 f0
  refine bodyPost_ret (v := .tuple #[.agg #[.slice a3 (o.getD []).length c3], .bool o.isSome]) ?_ rfl ⟨_, rfl, HO4.out.wide HL2.out.size HS4.out, HL4.out⟩
  rw [results_cell_tmp rfl]
  go_simp

theorem priceM_out (k : Int) (h : within 0 2 k = false) : priceM k = none := by
  have hn : ¬ (0 ≤ k ∧ k ≤ 2) := fun hh => by simp [within, hh.1, hh.2] at h
  unfold priceM
  rw [if_neg (by omega), if_neg (by omega), if_neg (by omega)]
set_option maxRecDepth 20000 in
set_option maxHeartbeats 2000000 in
theorem implPriceMatrix_any (k : Int) (w : World) : Calls Try.prog 26 #[.int .i64 k] w fun e w' => MatAns w (priceM k) e w' := by
  obtain ⟨V, hV⟩ : ∃ V, Value.agg (tree3 (priceT 0) (priceT 1) (priceT 2)).toArray = V := ⟨_, rfl⟩
  have HT := hid (fun w0 => priceTree_any w0)
  have HM := hid (fun w0 => matrixAt_any (priceT 0) (priceT 1) (priceT 2) treePrice.good k (priceM k) w0 (priceM_out k) (fun h => by subst h; decide) (fun h => by subst h; decide) (fun h => by subst h; decide))
  rw [hV] at HT HM
  obtain ⟨o, ho⟩ : ∃ o, priceM k = o := ⟨_, rfl⟩
  rw [ho] at HM ⊢
  have HL := hid (Later.alloc w (.cells #[.slice none 0 0] 32))
  have HX := hid (show Box (w.alloc (.cells #[.slice none 0 0] 32)) w.heap.size (.slice none 0 0) from ⟨by simp [go_sem], by simp [go_sem]⟩)
  have HSZ := hid (show (w.alloc (.cells #[.slice none 0 0] 32)).heap.size = w.heap.size + 1 by simp)
  clear hV ho
  go_enter Try.func26, Try.ntmps26
  go_wp2_with fail
  generalize w.alloc (.cells #[.slice none 0 0] 32) = w1 at HL HX HSZ ⊢
  refine (HT.out _).mono ?_
  rintro e w2 ⟨rfl, hL2⟩
  have HL2 := hid (HL.out.trans hL2)
  have HX2 := hid (HX.out.later hL2)
  have HS2 := hid hL2.size
  clear hL2
  go_wp2_with fail
  refine (HM.out _).mono ?_
  rintro e w3 ⟨v3, rfl, ho3, hL3⟩
  have HO3 := hid ho3
  have HL3 := hid (HL2.out.trans hL3)
  have HX3 := hid (HX2.out.later hL3)
  have HS3 := hid hL3.size
  obtain ⟨r0, f0⟩ := HX3.out
  obtain ⟨a3, c3, rfl, _⟩ := ho3.shape
  clear ho3 hL3
  go_wp2_with fail
  have HO4 := hid (HO3.out.setCell (a := ⟨w.heap.size, 0, none⟩) (by have := HSZ.out; have := HS2.out; simp; omega) (.slice a3 (o.getD []).length c3))
  have e0 := (HX3.out.set (.slice a3 (o.getD []).length c3)).1
  have HL4 := hid (show Later w (w3.setCell ⟨w.heap.size, 0, none⟩ (.slice a3 (o.getD []).length c3)) from Below.setCell HL3.out (Nat.le_refl _) _)
  have HS4 := hid (show w3.heap.size ≤ (w3.setCell ⟨w.heap.size, 0, none⟩ (.slice a3 (o.getD []).length c3)).heap.size by simp)
  generalize w3.setCell ⟨w.heap.size, 0, none⟩ (.slice a3 (o.getD []).length c3) = w4 at HO4 e0 HL4 HS4 ⊢
  clear r0 f0
  refine bodyPost_ret (v := .tuple #[.agg #[.slice a3 (o.getD []).length c3], .bool o.isSome]) ?_ rfl ⟨_, rfl, HO4.out.wide HL2.out.size HS4.out, HL4.out⟩
  rw [results_cell_tmp rfl]
  go_simp
end Go.Proofs.Ytefngijgoldjmab
