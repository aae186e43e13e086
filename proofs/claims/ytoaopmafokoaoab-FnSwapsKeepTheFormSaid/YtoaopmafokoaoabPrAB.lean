/- Prod, Prod2: in one text. -/
import Derived.Test.YtoaopmafokoaoabFoAp
namespace Go.Proofs.Ytoaopmafokoaoab
open Go.RowKit


theorem vecOK_len {n : Nat} {zs : List Int} (h : vecOK n zs = true) : zs.length = n := by
  simp only [vecOK, Bool.and_eq_true, decide_eq_true_eq] at h; exact h.1
theorem vecOK_no {n : Nat} {zs : List Int} (h : zs.length ≠ n) : vecOK n zs = false := by simp [vecOK, h]
theorem vecOK_eq {n : Nat} {zs : List Int} (h : zs.length = n) : vecOK n zs = zs.all (within (-1000000) 1000000) := by simp [vecOK, h]

theorem isVector_any (v : Value) (zs : List Int) (n : Nat) (w : World) (_hn : n ≤ 1048576) (h : Ints w v zs) :
    Calls Try.prog 88 #[v, .int .i64 n] w fun e w' => e = .returned (.bool (vecOK n zs)) ∧ w = w' := by
  have H := hid h
  obtain ⟨a, cap, rfl, hl, _⟩ := h
  by_cases hz : zs.length = n
  · have hb : ((zs.length : Int) == (n : Int)) = true := by simp [hz]
    have HZ := hid hz
    clear hz
    go_enter Try.func88, Try.ntmps88
    go_wp2_with fail
    refine (areWithin_any _ zs 1000000 _ ⟨by omega, by omega⟩ H.out).mono ?_
    rintro e w' ⟨rfl, rfl⟩
    go_wp2_with fail
    go_ret
    exact ⟨ret_bool (vecOK_eq HZ.out).symm, rfl⟩
  · have hb : ((zs.length : Int) == (n : Int)) = false := by simp; omega
    have HZ := hid hz
    clear hz
    go_enter Try.func88, Try.ntmps88
    go_wp2_with fail
    go_ret
    exact ⟨ret_bool (vecOK_no HZ.out).symm, rfl⟩

def matVec (m : List (List Int)) (zs : List Int) : Bool := goodM 1000000 m && vecOK m.length zs
def applyAns (m : List (List Int)) (zs : List Int) : Option (List Int) := if matVec m zs && (applyW m zs).all (within (-1000000) 1000000) then some (applyW m zs) else none

set_option maxHeartbeats 1000000 in
theorem implApplyMatrix_any (u v : Value) (m : List (List Int)) (zs : List Int) (w : World) (hu : Rows2 w u m) (hv : Ints w v zs) :
    Calls Try.prog 41 #[.agg #[u], v] w fun e w' => IntsAns w (applyAns m zs) e w' := by
  obtain ⟨a, cap, rfl, hl, _⟩ := id hu
  obtain ⟨vz, capz, rfl, hlz, _⟩ := id hv
  have hb0 : (w.alloc (.cells #[Value.slice a m.length cap] 44)).cell? ⟨w.heap.size, 0, none⟩ = some (.slice a m.length cap) := by simp [go_sem]
  have HU := hid (hu.later (Later.alloc w (.cells #[Value.slice a m.length cap] 44)))
  have HV := hid (hv.later (Later.alloc w (.cells #[Value.slice a m.length cap] 44)))
  have HL := hid (Later.alloc w (.cells #[Value.slice a m.length cap] 44))
  clear hu hv
  go_enter Try.func41, Try.ntmps41
  go_wp2_with fail
  generalize w.alloc (.cells #[Value.slice a m.length cap] 44) = w1 at hb0 HU HV HL ⊢
  refine (implIsMatrix_any _ m _ HU.out).mono ?_
  rintro e w2 ⟨rfl, hL⟩
  have hb2 := hL.cell hb0
  have HU2 := hid (HU.out.later hL)
  have HV2 := hid (HV.out.later hL)
  have HL2 := hid (HL.out.trans hL)
  clear hL hb0
  cases hgm : goodM 1000000 m
  · have HG := hid (show applyAns m zs = none by unfold applyAns matVec; rw [hgm]; rfl); clear hgm
    go_wp2_with fail
    go_ret2
    exact ⟨_, by rw [HG.out]; rfl, by rw [HG.out]; exact OwnInts.empty _ _ _, HL2.out⟩
  · have hq := hid (goodM_sq hgm)
    have hn4 : m.length ≤ 4 := (goodM_sq hgm).2.1
    have HGM := hid hgm
    clear hgm
    go_wp2_with fail
    refine (isVector_any _ zs m.length _ (by omega) HV2.out).mono ?_
    rintro e w' ⟨rfl, rfl⟩
    cases hv : vecOK m.length zs
    · have HG := hid (show applyAns m zs = none by unfold applyAns matVec; rw [HGM.out, hv]; rfl); clear hv
      go_wp2_with fail
      go_ret2
      exact ⟨_, by rw [HG.out]; rfl, by rw [HG.out]; exact OwnInts.empty _ _ _, HL2.out⟩
    · have HZ := hid (vecOK_len hv)
      have hzl : zs.length ≤ 1048576 := by rw [vecOK_len hv]; omega
      have HG := hid (show applyAns m zs = if (applyW m zs).all (within (-1000000) 1000000) then some (applyW m zs) else none by unfold applyAns matVec; rw [HGM.out, hv]; rfl)
      clear hv
      go_wp2_with fail
      refine (appliedTo_any m.length m hq.out.2.2 (by omega) zs HZ.out _ _ _ HU2.out HV2.out).mono ?_
      rintro e w3 ⟨v3, rfl, ho, hL⟩
      have HO := hid (ho.wide HL2.out.size (Nat.le_refl _))
      have HI := hid ho.ints
      have HL3 := hid (HL2.out.trans hL)
      clear ho hL
      go_wp2_with fail
      refine (isVector_any _ (applyW m zs) zs.length _ hzl HI.out).mono ?_
      rintro e w' ⟨rfl, rfl⟩
      rw [vecOK_eq (show (applyW m zs).length = zs.length by rw [HZ.out]; simp [applyW])]
      cases hb : (applyW m zs).all (within (-1000000) 1000000)
      · have HB := hid hb; clear hb
        go_wp2_with fail
        go_ret2
        exact ⟨_, by rw [HG.out, HB.out]; rfl, by rw [HG.out, HB.out]; exact OwnInts.empty _ _ _, HL3.out⟩
      · have HB := hid hb; clear hb
        go_wp2_with fail
        go_ret2
        exact ⟨_, by rw [HG.out, HB.out]; rfl, by rw [HG.out, HB.out]; exact HO.out, HL3.out⟩


def prodAns (m : List (List Int)) (xs zs : List Int) : Option Int := if formW m && (vecOK m.length xs && vecOK m.length zs) then some (dotW xs (applyW m zs)) else none
theorem formW_good {m : List (List Int)} (h : formW m = true) : goodM 1000 m = true ∧ goodM 1000000 m = true := by
  simp only [formW, Bool.and_eq_true] at h
  exact ⟨h.1, goodM_mono (by omega) h.1⟩
theorem matVec_form {m : List (List Int)} (h : formW m = true) (zs : List Int) : matVec m zs = vecOK m.length zs := by unfold matVec; rw [(formW_good h).2]; rfl

set_option maxHeartbeats 2000000 in
theorem implProductAt_any (u vx vz : Value) (m : List (List Int)) (xs zs : List Int) (w : World) (hu : Rows2 w u m) (h1 : Ints w vx xs) (h2 : Ints w vz zs) :
    Calls Try.prog 84 #[.agg #[u], vx, vz] w fun e w' => NumAns w (prodAns m xs zs) e w' := by
  obtain ⟨a, cap, rfl, hl, _⟩ := id hu
  have hb0 : (w.alloc (.cells #[Value.slice a m.length cap] 44)).cell? ⟨w.heap.size, 0, none⟩ = some (.slice a m.length cap) := by simp [go_sem]
  have HU := hid (hu.later (Later.alloc w (.cells #[Value.slice a m.length cap] 44)))
  have H1 := hid (h1.later (Later.alloc w (.cells #[Value.slice a m.length cap] 44)))
  have H2 := hid (h2.later (Later.alloc w (.cells #[Value.slice a m.length cap] 44)))
  have HL := hid (Later.alloc w (.cells #[Value.slice a m.length cap] 44))
  clear hu h1 h2
  go_enter Try.func84, Try.ntmps84
  go_wp2_with fail
  generalize w.alloc (.cells #[Value.slice a m.length cap] 44) = w1 at hb0 HU H1 H2 HL ⊢
  refine (isSmallForm_any _ m _ HU.out).mono ?_
  rintro e w2 ⟨rfl, hL⟩
  have hb2 := hL.cell hb0
  have HL2 := hid hL
  clear hL hb0
  cases hf : formW m
  · have HG := hid (show prodAns m xs zs = none by unfold prodAns; rw [hf]; rfl); clear hf
    go_wp2_with fail
    go_ret2
    exact ⟨by rw [HG.out]; rfl, HL.out.trans HL2.out⟩
  · have hq := hid (goodM_sq (formW_good hf).2)
    have hn4 : m.length ≤ 4 := (goodM_sq (formW_good hf).2).2.1
    have HF := hid hf
    clear hf
    go_wp2_with fail
    refine (isVector_any _ xs m.length _ (by omega) (H1.out.later HL2.out)).mono ?_
    rintro e w' ⟨rfl, rfl⟩
    cases hx : vecOK m.length xs
    · have HG := hid (show prodAns m xs zs = none by unfold prodAns; rw [HF.out, hx]; rfl); clear hx
      go_wp2_with fail
      go_ret2
      exact ⟨by rw [HG.out]; rfl, HL.out.trans HL2.out⟩
    · have HX := hid hx
      clear hx
      go_wp2_with fail
      refine (isVector_any _ zs m.length _ (by omega) (H2.out.later HL2.out)).mono ?_
      rintro e w' ⟨rfl, rfl⟩
      cases hz : vecOK m.length zs
      · have HG := hid (show prodAns m xs zs = none by unfold prodAns; rw [HF.out, HX.out, hz]; rfl); clear hz
        go_wp2_with fail
        go_ret2
        exact ⟨by rw [HG.out]; rfl, HL.out.trans HL2.out⟩
      · have HG := hid (show prodAns m xs zs = some (dotW xs (applyW m zs)) by unfold prodAns; rw [HF.out, HX.out, hz]; rfl)
        have HZ := hid hz
        clear hz
        go_wp2_with fail
        refine (appliedTo_any m.length m hq.out.2.2 (by omega) zs (vecOK_len HZ.out) _ _ _ (HU.out.later HL2.out) (H2.out.later HL2.out)).mono ?_
        rintro e w3 ⟨v3, rfl, ho, hL⟩
        have HI := hid ho.ints
        have HL3 := hid (HL2.out.trans hL)
        clear ho hL
        go_wp2_with fail
        refine (dot_any _ _ xs (applyW m zs) _ (by rw [vecOK_len HX.out]; simp [applyW]) (H1.out.later HL3.out) HI.out).mono ?_
        rintro e w5 ⟨rfl, hL⟩
        have HL5 := hid (HL3.out.trans hL)
        clear hL
        go_wp2_with fail
        go_ret2
        exact ⟨by rw [HG.out]; rfl, HL.out.trans HL5.out⟩

theorem implFormAt_any (u vx : Value) (m : List (List Int)) (xs : List Int) (w : World) (hu : Rows2 w u m) (h1 : Ints w vx xs) :
    Calls Try.prog 38 #[.agg #[u], vx] w fun e w' => NumAns w (prodAns m xs xs) e w' := by
  obtain ⟨a, cap, rfl, hl, _⟩ := id hu
  have HU := hid (hu.later (Later.alloc w (.cells #[Value.slice a m.length cap] 44)))
  have H1 := hid (h1.later (Later.alloc w (.cells #[Value.slice a m.length cap] 44)))
  have HL := hid (Later.alloc w (.cells #[Value.slice a m.length cap] 44))
  clear hu h1
  go_enter Try.func38, Try.ntmps38
  go_wp2_with fail
  refine (implProductAt_any _ _ _ m xs xs _ HU.out H1.out H1.out).mono ?_
  rintro e w2 ⟨rfl, hL⟩
  have HL2 := hid (HL.out.trans hL)
  clear hL
  go_wp2_with fail
  go_ret2
  exact ⟨rfl, HL2.out⟩
end Go.Proofs.Ytoaopmafokoaoab
