/- Contracts of ApplyMatrix, ProductAt, FormAt. -/
import Derived.Test.YtedgccbogjinhaaApply
namespace Go.Proofs.Ytedgccbogjinhaa
open Go.RowKit

theorem vecOK_len {n : Nat} {zs : List Int} (h : vecOK n zs = true) : zs.length = n := by
  simp only [vecOK, Bool.and_eq_true, decide_eq_true_eq] at h; exact h.1
theorem vecOK_no {n : Nat} {zs : List Int} (h : zs.length ≠ n) : vecOK n zs = false := by simp [vecOK, h]
theorem vecOK_eq {n : Nat} {zs : List Int} (h : zs.length = n) : vecOK n zs = zs.all (within (-1000000) 1000000) := by simp [vecOK, h]

theorem isVector_any (v : Value) (zs : List Int) (n : Nat) (w : World) (_hn : n ≤ 1048576) (h : Ints w v zs) :
    Calls Try.prog 67 #[v, .int .i64 n] w fun e w' => e = .returned (.bool (vecOK n zs)) ∧ w = w' := by
  have H := hid h
  obtain ⟨a, cap, rfl, hl, _⟩ := h
  by_cases hz : zs.length = n
  · have hb : ((zs.length : Int) == (n : Int)) = true := by simp [hz]
    have HZ := hid hz
    clear hz
    go_enter Try.func67, Try.ntmps67
    go_wp2_with fail
    refine (areWithin_any _ zs 1000000 _ ⟨by omega, by omega⟩ H.out).mono ?_
    rintro e w' ⟨rfl, rfl⟩
    go_wp2_with fail
    go_ret
    exact ⟨ret_bool (vecOK_eq HZ.out).symm, rfl⟩
  · have hb : ((zs.length : Int) == (n : Int)) = false := by simp; omega
    have HZ := hid hz
    clear hz
    go_enter Try.func67, Try.ntmps67
    go_wp2_with fail
    go_ret
    exact ⟨ret_bool (vecOK_no HZ.out).symm, rfl⟩

def matVec (m : List (List Int)) (zs : List Int) : Bool := goodM 1000000 m && vecOK m.length zs
set_option maxHeartbeats 400000 in
theorem foVector_any (u v : Value) (m : List (List Int)) (zs : List Int) (w : World) (hu : Rows2 w u m) (hv : Ints w v zs) :
    Calls Try.prog 64 #[.agg #[u], v] w fun e w' => e = .returned (.bool (matVec m zs)) ∧ Later w w' := by
  obtain ⟨a, cap, rfl, hl, _⟩ := id hu
  obtain ⟨vz, capz, rfl, hlz, _⟩ := id hv
  have hb0 : (w.alloc (.cells #[Value.slice a m.length cap] 27)).cell? ⟨w.heap.size, 0, none⟩ = some (.slice a m.length cap) := by simp [go_sem]
  have HU := hid (hu.later (Later.alloc w (.cells #[Value.slice a m.length cap] 27)))
  have HV := hid (hv.later (Later.alloc w (.cells #[Value.slice a m.length cap] 27)))
  have HL := hid (Later.alloc w (.cells #[Value.slice a m.length cap] 27))
  clear hu hv
  go_enter Try.func64, Try.ntmps64
  go_wp2_with fail
  generalize w.alloc (.cells #[Value.slice a m.length cap] 27) = w1 at hb0 HU HV HL ⊢
  refine (foGood_any _ m _ HU.out).mono ?_
  rintro e w2 ⟨rfl, hL⟩
  have hb2 := hL.cell hb0
  have HV2 := hid (HV.out.later hL)
  have HL2 := hid (HL.out.trans hL)
  clear hL hb0
  cases hg : goodM 1000000 m
  · have HG := hid (show matVec m zs = false by unfold matVec; rw [hg]; rfl); clear hg
    go_wp2_with fail
    go_ret
    exact ⟨ret_bool HG.out.symm, HL2.out⟩
  · have HG := hid (show matVec m zs = vecOK m.length zs by unfold matVec; rw [hg]; rfl); clear hg
    by_cases hz : zs.length = m.length
    · have hb : ((zs.length : Int) == (m.length : Int)) = true := by simp [hz]
      have HZ := hid hz
      clear hz
      go_wp2_with fail
      refine (l1All_any _ zs (-1000000) 1000000 _ HV2.out).mono ?_
      rintro e w' ⟨rfl, rfl⟩
      go_wp2_with fail
      go_ret
      exact ⟨ret_bool (by rw [HG.out, vecOK_eq HZ.out]), HL2.out⟩
    · have hb : ((zs.length : Int) == (m.length : Int)) = false := by simp; omega
      have HZ := hid hz
      clear hz
      go_wp2_with fail
      go_ret
      exact ⟨ret_bool (by rw [HG.out, vecOK_no HZ.out]), HL2.out⟩

def applyAns (m : List (List Int)) (zs : List Int) : Option (List Int) := if matVec m zs && (applyW m zs).all (within (-1000000) 1000000) then some (applyW m zs) else none

set_option maxHeartbeats 1000000 in
theorem specApplyMatrix_any (u v : Value) (m : List (List Int)) (zs : List Int) (w : World) (hu : Rows2 w u m) (hv : Ints w v zs) :
    Calls Try.prog 26 #[.agg #[u], v] w fun e w' => IntsAns w (applyAns m zs) e w' := by
  obtain ⟨a, cap, rfl, hl, _⟩ := id hu
  have hb0 : (w.alloc (.cells #[Value.slice a m.length cap] 27)).cell? ⟨w.heap.size, 0, none⟩ = some (.slice a m.length cap) := by simp [go_sem]
  have HU := hid (hu.later (Later.alloc w (.cells #[Value.slice a m.length cap] 27)))
  have HV := hid (hv.later (Later.alloc w (.cells #[Value.slice a m.length cap] 27)))
  have HL := hid (Later.alloc w (.cells #[Value.slice a m.length cap] 27))
  clear hu hv
  go_enter Try.func26, Try.ntmps26
  go_wp2_with fail
  generalize w.alloc (.cells #[Value.slice a m.length cap] 27) = w1 at hb0 HU HV HL ⊢
  refine (foVector_any _ _ m zs _ HU.out HV.out).mono ?_
  rintro e w2 ⟨rfl, hL⟩
  have hb2 := hL.cell hb0
  have HU2 := hid (HU.out.later hL)
  have HV2 := hid (HV.out.later hL)
  have HL2 := hid (HL.out.trans hL)
  clear hL hb0
  cases hg : matVec m zs
  · have HG := hid (show applyAns m zs = none by unfold applyAns; rw [hg]; rfl); clear hg
    go_wp2_with fail
    go_ret2
    exact ⟨_, by rw [HG.out]; rfl, by rw [HG.out]; exact OwnInts.empty _ _ _, HL2.out⟩
  · have hg2 := hg
    simp only [matVec, Bool.and_eq_true] at hg2
    have hq := hid (goodM_sq hg2.1)
    have HZ := hid (vecOK_len hg2.2)
    have HG := hid (show applyAns m zs = if (applyW m zs).all (within (-1000000) 1000000) then some (applyW m zs) else none by unfold applyAns; rw [hg]; rfl)
    clear hg hg2
    go_wp2_with fail
    refine (foApply_any m.length m hq.out.2.2 (by have := hq.out.2.1; omega) zs HZ.out _ _ _ HU2.out HV2.out).mono ?_
    rintro e w3 ⟨v3, rfl, ho, hL⟩
    have HO := hid (ho.wide HL2.out.size (Nat.le_refl _))
    have HI := hid ho.ints
    have HL3 := hid (HL2.out.trans hL)
    clear ho hL
    go_wp2_with fail
    refine (l1All_any _ (applyW m zs) (-1000000) 1000000 _ HI.out).mono ?_
    rintro e w' ⟨rfl, rfl⟩
    cases hb : (applyW m zs).all (within (-1000000) 1000000)
    · have HB := hid hb; clear hb
      go_wp2_with fail
      go_ret2
      exact ⟨_, by rw [HG.out, HB.out]; rfl, by rw [HG.out, HB.out]; exact OwnInts.empty _ _ _, HL3.out⟩
    · have HB := hid hb; clear hb
      go_wp2_with fail
      go_ret2
      exact ⟨_, by rw [HG.out, HB.out]; rfl, by rw [HG.out, HB.out]; exact HO.out, HL3.out⟩

set_option maxHeartbeats 1000000 in
theorem implApplyMatrix_any (u v : Value) (m : List (List Int)) (zs : List Int) (w : World) (hu : Rows2 w u m) (hv : Ints w v zs) :
    Calls Try.prog 28 #[.agg #[u], v] w fun e w' => IntsAns w (applyAns m zs) e w' := by
  obtain ⟨a, cap, rfl, hl, _⟩ := id hu
  obtain ⟨vz, capz, rfl, hlz, _⟩ := id hv
  have hb0 : (w.alloc (.cells #[Value.slice a m.length cap] 27)).cell? ⟨w.heap.size, 0, none⟩ = some (.slice a m.length cap) := by simp [go_sem]
  have HU := hid (hu.later (Later.alloc w (.cells #[Value.slice a m.length cap] 27)))
  have HV := hid (hv.later (Later.alloc w (.cells #[Value.slice a m.length cap] 27)))
  have HL := hid (Later.alloc w (.cells #[Value.slice a m.length cap] 27))
  clear hu hv
  go_enter Try.func28, Try.ntmps28
  go_wp2_with fail
  generalize w.alloc (.cells #[Value.slice a m.length cap] 27) = w1 at hb0 HU HV HL ⊢
  refine (implIsMatrix_any _ m _ HU.out).mono ?_
  rintro e w2 ⟨rfl, hL⟩
  have hb2 := hL.cell hb0
  have HU2 := hid (HU.out.later hL)
  have HV2 := hid (HV.out.later hL)
  have HL2 := hid (HL.out.trans hL)
  clear hL hb0
  cases hgm : goodM 1000000 m
  · have HG := hid (show applyAns m zs = none by unfold applyAns matVec; rw [hgm]; rfl); clear hgm
    go_wp2_with fail
    go_ret2
    exact ⟨_, by rw [HG.out]; rfl, by rw [HG.out]; exact OwnInts.empty _ _ _, HL2.out⟩
  · have hq := hid (goodM_sq hgm)
    have hn4 : m.length ≤ 4 := (goodM_sq hgm).2.1
    have HGM := hid hgm
    clear hgm
    go_wp2_with fail
    refine (isVector_any _ zs m.length _ (by omega) HV2.out).mono ?_
    rintro e w' ⟨rfl, rfl⟩
    cases hv : vecOK m.length zs
    · have HG := hid (show applyAns m zs = none by unfold applyAns matVec; rw [HGM.out, hv]; rfl); clear hv
      go_wp2_with fail
      go_ret2
      exact ⟨_, by rw [HG.out]; rfl, by rw [HG.out]; exact OwnInts.empty _ _ _, HL2.out⟩
    · have HZ := hid (vecOK_len hv)
      have hzl : zs.length ≤ 1048576 := by rw [vecOK_len hv]; omega
      have HG := hid (show applyAns m zs = if (applyW m zs).all (within (-1000000) 1000000) then some (applyW m zs) else none by unfold applyAns matVec; rw [HGM.out, hv]; rfl)
      clear hv
      go_wp2_with fail
      refine (appliedTo_any m.length m hq.out.2.2 (by omega) zs HZ.out _ _ _ HU2.out HV2.out).mono ?_
      rintro e w3 ⟨v3, rfl, ho, hL⟩
      have HO := hid (ho.wide HL2.out.size (Nat.le_refl _))
      have HI := hid ho.ints
      have HL3 := hid (HL2.out.trans hL)
      clear ho hL
      go_wp2_with fail
      refine (isVector_any _ (applyW m zs) zs.length _ hzl HI.out).mono ?_
      rintro e w' ⟨rfl, rfl⟩
      rw [vecOK_eq (show (applyW m zs).length = zs.length by rw [HZ.out]; simp [applyW])]
      cases hb : (applyW m zs).all (within (-1000000) 1000000)
      · have HB := hid hb; clear hb
        go_wp2_with fail
        go_ret2
        exact ⟨_, by rw [HG.out, HB.out]; rfl, by rw [HG.out, HB.out]; exact OwnInts.empty _ _ _, HL3.out⟩
      · have HB := hid hb; clear hb
        go_wp2_with fail
        go_ret2
        exact ⟨_, by rw [HG.out, HB.out]; rfl, by rw [HG.out, HB.out]; exact HO.out, HL3.out⟩
end Go.Proofs.Ytedgccbogjinhaa
