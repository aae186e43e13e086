/- The centre of a Christoffel word, in both. -/
import Derived.Test.YtmmapfdmdliifaaDoorWdH
namespace Go.Proofs.YtmmapfdmdliifaaDoor
open Go.RowKit

theorem mid_eq (s : ByteArray) (_h : 2 ≤ s.size) : s.extract 1 (s.size - 1) = ⟨((s.data.toList.drop 1).take (s.data.toList.length - 2)).toArray⟩ := by
  apply ByteArray.ext
  apply Array.toList_inj.1
  rw [ext_list, List.drop_take, ← size_list]
  congr 1
theorem mid_size (s : ByteArray) (h : 2 ≤ s.size) : (s.extract 1 (s.size - 1)).size ≤ s.size := by
  rw [size_list, ext_list, List.length_drop, List.length_take, ← size_list]; omega

set_option maxRecDepth 20000 in
set_option maxHeartbeats 2000000 in
theorem specCentreOf_any (s : ByteArray) (w : World) (_hs : s.size ≤ 1048576) : Calls Tryd.prog 21 #[.string s] w fun e w' => StrAns w (centreAns s.data.toList) e w' := by
  have HC := hid (fun b w hb => chTwo_as s b w hb)
  cases hb : isTwoW s.data.toList
  · have HA := hid (show centreAns s.data.toList = none by unfold centreAns; rw [if_neg (by simp [hb])])
    have HB := hid hb
    rw [HA.out]
    clear hb
    go_enter Tryd.func21, Tryd.ntmps21
    go_wp2_with fail
    refine (HC.out false _ HB.out).mono ?_
    rintro e w1 ⟨rfl, hL⟩
    go_wp2_with fail
    go_ret2
    exact ⟨rfl, hL⟩
  · have HA := hid (show centreAns s.data.toList = some ((s.data.toList.drop 1).take (s.data.toList.length - 2)) by unfold centreAns; rw [if_pos hb])
    have h2 := ((isTwoW_iff _).1 hb).2.1
    rw [← size_list] at h2
    have HP := hid (mid_eq s h2)
    have HB := hid hb
    obtain ⟨m, hm⟩ : ∃ m, s.size = m + 1 := ⟨s.size - 1, by omega⟩
    have hmI : (s.size : Int) - 1 = (m : Int) := by omega
    have hm1 : (1 : Int) ≤ (m : Int) := by omega
    have hm2 : (m : Int) ≤ (s.size : Int) := by omega
    have hm3 : m ≤ s.size := by omega
    have hm4 : 1 ≤ m := by omega
    have hm5 : s.size - 1 = m := by omega
    rw [hm5] at HP
    rw [HA.out]
    clear hb hm h2 hm5
    go_enter Tryd.func21, Tryd.ntmps21
    go_wp2_with fail
    refine (HC.out true _ HB.out).mono ?_
    rintro e w1 ⟨rfl, hL⟩
    have HL1 := hid hL
    clear hL
    go_wp2_with fail
    go_ret2
    refine ⟨?_, HL1.out⟩
    rw [HP.out]
    rfl
set_option maxRecDepth 20000 in
set_option maxHeartbeats 2000000 in
theorem implCentreOf_any (s : ByteArray) (w : World) (hs : s.size ≤ 1048576) : Calls Tryd.prog 22 #[.string s] w fun e w' => StrAns w (centreAns s.data.toList) e w' := by
  have HG := hid (fun b w h => implisChristoffel_as s b w hs h)
  cases hb : implGoodW s.data.toList
  · have HT := hid (show isTwoW s.data.toList = false by
      cases e : isTwoW s.data.toList
      · rfl
      · obtain ⟨p1, _, p3⟩ := (isTwoW_iff _).1 e
        unfold implGoodW at hb
        rw [p1, p3] at hb
        cases hb)
    have HA := hid (show centreAns s.data.toList = none by unfold centreAns; rw [if_neg (by simp [HT.out])])
    have HB := hid hb
    rw [HA.out]
    clear hb
    go_enter Tryd.func22, Tryd.ntmps22
    go_wp2_with fail
    refine (HG.out false _ HB.out).mono ?_
    rintro e w1 ⟨rfl, hL⟩
    go_wp2_with fail
    go_ret2
    exact ⟨rfl, hL⟩
  · have hlg : lettersW s.data.toList = true ∧ goodW s.data.toList = true := by simpa [implGoodW] using hb
    obtain ⟨hl, hg⟩ := hlg
    have hl1 := ((lettersW_iff _).1 hl).1
    rw [← size_list] at hl1
    have HB := hid hb
    by_cases h2 : 2 ≤ s.size
    · have HT := hid ((isTwoW_iff _).2 ⟨hl, by rw [← size_list]; omega, hg⟩)
      have HA := hid (show centreAns s.data.toList = some ((s.data.toList.drop 1).take (s.data.toList.length - 2)) by unfold centreAns; rw [if_pos HT.out])
      have HP := hid (mid_eq s h2)
      have hms := mid_size s h2
      have HCL := hid (fun w => clone_any (s.extract 1 (s.size - 1)) w (by omega))
      obtain ⟨m, hm⟩ : ∃ m, s.size = m + 1 := ⟨s.size - 1, by omega⟩
      have hmI : (s.size : Int) - 1 = (m : Int) := by omega
      have hm0 : ((s.size : Int) == 1) = false := by rw [beq_eq_false_iff_ne]; omega
      have hm1 : (1 : Int) ≤ (m : Int) := by omega
      have hm2 : (m : Int) ≤ (s.size : Int) := by omega
      have hm3 : m ≤ s.size := by omega
      have hm4 : 1 ≤ m := by omega
      have hm5 : s.size - 1 = m := by omega
      rw [hm5] at HP HCL
      rw [HA.out]
      clear hb hm h2 hm5 hl hg hms hl1
      go_enter Tryd.func22, Tryd.ntmps22
      go_wp2_with fail
      refine (HG.out true _ HB.out).mono ?_
      rintro e w1 ⟨rfl, hL⟩
      have HL1 := hid hL
      clear hL
      go_wp2_with fail
      refine (HCL.out _).mono ?_
      rintro e w2 ⟨rfl, hL⟩
      have HL2 := hid (HL1.out.trans hL)
      clear hL
      go_wp2_with fail
      go_ret2
      refine ⟨?_, HL2.out⟩
      rw [HP.out]
      rfl
    · have HT := hid (show isTwoW s.data.toList = false by
        cases e : isTwoW s.data.toList
        · rfl
        · have := ((isTwoW_iff _).1 e).2.1
          rw [← size_list] at this
          omega)
      have HA := hid (show centreAns s.data.toList = none by unfold centreAns; rw [if_neg (by simp [HT.out])])
      have hm0 : ((s.size : Int) == 1) = true := by rw [beq_iff_eq]; omega
      rw [HA.out]
      clear hb h2 hl hg hl1
      go_enter Tryd.func22, Tryd.ntmps22
      go_wp2_with fail
      refine (HG.out true _ HB.out).mono ?_
      rintro e w1 ⟨rfl, hL⟩
      have HL1 := hid hL
      clear hL
      go_wp2_with fail
      go_ret2
      exact ⟨rfl, HL1.out⟩
end Go.Proofs.YtmmapfdmdliifaaDoor
