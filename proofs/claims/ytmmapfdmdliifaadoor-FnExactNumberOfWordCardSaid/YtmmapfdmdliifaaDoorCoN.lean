/- The number of a word: the Cohn matrix's number in the first row and the second column, in the model and in the program. -/
import Derived.Test.YtmmapfdmdliifaaDoorCoJ
namespace Go.Proofs.YtmmapfdmdliifaaDoor
open Go.RowKit

def numAns (l : List UInt8) : Option Int := (cohnAns l).map fun M => (M.getD 0 []).getD 1 0
theorem cohnAns_sq (l : List UInt8) (M : List (List Int)) (h : cohnAns l = some M) : Sq 2 M := by
  unfold cohnAns at h
  split at h
  · exact cohnF_sq l _ M (Sq.mk' 2 _) h
  · cases h
theorem own_cell2 {lo hi : Nat} {w : World} {v : Value} {M : List (List Int)} (h : OwnRows lo hi w v M) (hq : Sq 2 M) :
    ∃ g c g' c', v = .slice (some ⟨g, 0, none⟩) 2 c ∧ w.cell? ⟨g, 0, none⟩ = some (.slice (some ⟨g', 0, none⟩) 2 c') ∧ w.cell? ⟨g', 1, none⟩ = some (.int .i64 ((M.getD 0 []).getD 1 0)) := by
  obtain ⟨g, cap, u, hv, hu, ho, _⟩ := h.row (i := 0) (by rw [hq.1]; decide)
  rw [hq.1] at hv
  rw [addr_add0] at hu
  have h2 := hq.2 0 (by decide)
  rcases ho.form with ⟨_, hz⟩ | ⟨g', c', hx⟩
  · rw [hz] at h2; cases h2
  · obtain ⟨a, cap', hx2, _, hc⟩ := ho.ints
    obtain ⟨ad, hxa, hcell⟩ := hc 1 (by rw [h2]; decide)
    rw [hx] at hx2
    subst hxa
    injection hx2 with e1 e2 e3
    injection e1 with e1
    subst e1
    rw [addr_add0] at hcell
    rw [hx, h2] at hu
    exact ⟨g, cap, g', c', hv, hu, hcell⟩

set_option maxRecDepth 20000 in
set_option maxHeartbeats 2000000 in
theorem specNumberOfWord_any (s : ByteArray) (w : World) (hs : s.size ≤ 1048576) : Calls Tryd.prog 37 #[.string s] w fun e w' => NumAns w (numAns s.data.toList) e w' := by
  have HM := hid (fun w' => specCohnMatrix_any s w' hs)
  cases hm : cohnAns s.data.toList with
  | none =>
    have HN := hid (show numAns s.data.toList = none by unfold numAns; rw [hm]; rfl)
    rw [hm] at HM
    rw [HN.out]
    clear hm
    go_enter Tryd.func37, Tryd.ntmps37
    go_wp2_with fail
    refine (HM.out _).mono ?_
    rintro e w1 ⟨v, rfl, hown, hL⟩
    obtain ⟨a1, c1, rfl, _⟩ := hown.shape
    have HL := hid hL
    clear hL hown
    have HA := hid (Later.alloc w1 (.cells #[.slice a1 ((none : Option (List (List Int))).getD []).length c1] 38))
    go_wp2_with fail
    go_ret2
    exact ⟨rfl, HL.out.trans HA.out⟩
  | some M =>
    have HN := hid (show numAns s.data.toList = some ((M.getD 0 []).getD 1 0) by unfold numAns; rw [hm]; rfl)
    have HQ := hid (cohnAns_sq _ M hm)
    rw [hm] at HM
    rw [HN.out]
    obtain ⟨x, hxe⟩ : ∃ x, (M.getD 0 []).getD 1 0 = x := ⟨_, rfl⟩
    have HXE := hid hxe
    rw [hxe]
    clear hm hxe
    go_enter Tryd.func37, Tryd.ntmps37
    go_wp2_with fail
    refine (HM.out _).mono ?_
    rintro e w1 ⟨v, rfl, hown, hL⟩
    obtain ⟨g, c, g', c', rfl, hu, hx⟩ := own_cell2 hown HQ.out
    have HL := hid hL
    simp only [Option.getD_some] at hx
    rw [HXE.out] at hx
    have hA := Later.alloc w1 (.cells #[.slice (some ⟨g, 0, none⟩) 2 c] 38)
    have cu := hA.cell hu
    have cx := hA.cell hx
    have HA := hid hA
    have c0 : (w1.alloc (.cells #[.slice (some ⟨g, 0, none⟩) 2 c] 38)).cell? ⟨w1.heap.size, 0, none⟩ = some (.slice (some ⟨g, 0, none⟩) 2 c) := by simp [go_sem]
    clear hL hown hu hx hA
    go_wp2_with fail
    go_ret2
    exact ⟨rfl, HL.out.trans HA.out⟩

set_option maxRecDepth 20000 in
set_option maxHeartbeats 2000000 in
theorem implNumberOfWord_any (s : ByteArray) (w : World) (hs : s.size ≤ 1048576) : Calls Tryd.prog 38 #[.string s] w fun e w' => NumAns w (numAns s.data.toList) e w' := by
  have HM := hid (fun w' => implCohnMatrix_any s w' hs)
  cases hm : cohnAns s.data.toList with
  | none =>
    have HN := hid (show numAns s.data.toList = none by unfold numAns; rw [hm]; rfl)
    rw [hm] at HM
    rw [HN.out]
    clear hm
    go_enter Tryd.func38, Tryd.ntmps38
    go_wp2_with fail
    refine (HM.out _).mono ?_
    rintro e w1 ⟨v, rfl, hown, hL⟩
    obtain ⟨a1, c1, rfl, _⟩ := hown.shape
    have HL := hid hL
    clear hL hown
    have HA := hid (Later.alloc w1 (.cells #[.slice a1 ((none : Option (List (List Int))).getD []).length c1] 38))
    go_wp2_with fail
    go_ret2
    exact ⟨rfl, HL.out.trans HA.out⟩
  | some M =>
    have HN := hid (show numAns s.data.toList = some ((M.getD 0 []).getD 1 0) by unfold numAns; rw [hm]; rfl)
    have HQ := hid (cohnAns_sq _ M hm)
    rw [hm] at HM
    rw [HN.out]
    obtain ⟨x, hxe⟩ : ∃ x, (M.getD 0 []).getD 1 0 = x := ⟨_, rfl⟩
    have HXE := hid hxe
    rw [hxe]
    clear hm hxe
    go_enter Tryd.func38, Tryd.ntmps38
    go_wp2_with fail
    refine (HM.out _).mono ?_
    rintro e w1 ⟨v, rfl, hown, hL⟩
    obtain ⟨g, c, g', c', rfl, hu, hx⟩ := own_cell2 hown HQ.out
    have HL := hid hL
    simp only [Option.getD_some] at hx
    rw [HXE.out] at hx
    have hA := Later.alloc w1 (.cells #[.slice (some ⟨g, 0, none⟩) 2 c] 38)
    have cu := hA.cell hu
    have cx := hA.cell hx
    have HA := hid hA
    have c0 : (w1.alloc (.cells #[.slice (some ⟨g, 0, none⟩) 2 c] 38)).cell? ⟨w1.heap.size, 0, none⟩ = some (.slice (some ⟨g, 0, none⟩) 2 c) := by simp [go_sem]
    clear hL hown hu hx hA
    go_wp2_with fail
    go_ret2
    exact ⟨rfl, HL.out.trans HA.out⟩
end Go.Proofs.YtmmapfdmdliifaaDoor
