/- ReflectionOf, the program's: the whole function. -/
import Derived.Test.YtmlnpnglafipbabReflI
namespace Go.Proofs.Ytmlnpnglafipbab
open Go.RowKit

theorem reflAns_none {F : List (List Int)} {zs : List Int} (h : prodAns F zs zs = none) : reflAns F zs = none := by unfold reflAns; rw [h]
theorem reflAns_zero {F : List (List Int)} {zs : List Int} (h : prodAns F zs zs = some 0) : reflAns F zs = none := by unfold reflAns; rw [h]; simp
theorem reflAns_part {F : List (List Int)} {zs : List Int} {q : Int} (h : prodAns F zs zs = some q) (hw : wholeN F.length q zs (applyW F zs) (F.length * F.length) = false) : reflAns F zs = none := by
  unfold reflAns; rw [h]; simp [hw]
theorem reflAns_yes {F : List (List Int)} {zs : List Int} {q : Int} (h : prodAns F zs zs = some q) (hq : q ≠ 0) (hw : wholeN F.length q zs (applyW F zs) (F.length * F.length) = true) : reflAns F zs = ifGood (reflM F.length q zs (applyW F zs)) := by
  unfold reflAns; rw [h]; simp [hw, hq]

set_option maxRecDepth 20000 in
set_option maxHeartbeats 4000000 in
theorem implReflectionOf_any (u v : Value) (F : List (List Int)) (zs : List Int) (w : World) (hu : Rows2 w u F) (hv : Ints w v zs) :
    Calls Try.prog 34 #[.agg #[u], v] w fun e w' => MatAns w (reflAns F zs) e w' := by
  obtain ⟨a, cap, rfl, hl, _⟩ := id hu
  obtain ⟨b, cap2, rfl, hl2, _⟩ := id hv
  have hA := ((Later.alloc w (.cells #[Value.slice a F.length cap] 42)).trans (Later.alloc _ (.cells #[Value.slice b zs.length cap2] 28))).trans (Later.alloc _ (.cells #[Value.slice none 0 0] 42))
  have hb0 : (((w.alloc (.cells #[Value.slice a F.length cap] 42)).alloc (.cells #[Value.slice b zs.length cap2] 28)).alloc (.cells #[Value.slice none 0 0] 42)).cell? ⟨w.heap.size, 0, none⟩ = some (.slice a F.length cap) := by simp [go_sem]
  have hb1 : (((w.alloc (.cells #[Value.slice a F.length cap] 42)).alloc (.cells #[Value.slice b zs.length cap2] 28)).alloc (.cells #[Value.slice none 0 0] 42)).cell? ⟨w.heap.size + 1, 0, none⟩ = some (.slice b zs.length cap2) := by simp [go_sem]
  have hb2 : Box (((w.alloc (.cells #[Value.slice a F.length cap] 42)).alloc (.cells #[Value.slice b zs.length cap2] 28)).alloc (.cells #[Value.slice none 0 0] 42)) (w.heap.size + 1 + 1) (.slice none 0 0) := ⟨by simp [go_sem], by simp [go_sem]⟩
  have HU := hid (hu.later hA)
  have HV := hid (hv.later hA)
  have HL := hid hA
  clear hu hv hA
  go_enter Try.func34, Try.ntmps34
  go_wp2_with fail
  generalize ((w.alloc (.cells #[Value.slice a F.length cap] 42)).alloc (.cells #[Value.slice b zs.length cap2] 28)).alloc (.cells #[Value.slice none 0 0] 42) = w1 at hb0 hb1 hb2 HU HV HL ⊢
  refine (implFormAt_any _ _ F zs _ HU.out HV.out).mono ?_
  rintro e w2 ⟨rfl, hL⟩
  replace hb0 := hL.cell hb0
  replace hb1 := hL.cell hb1
  replace hb2 := hb2.later hL
  have HU2 := hid (HU.out.later hL)
  have HV2 := hid (HV.out.later hL)
  have HL2 := hid (HL.out.trans hL)
  clear hL HU HV HL
  have hA3 := Later.alloc w2 (.cells #[.int .i64 ((prodAns F zs zs).getD 0)] 3)
  have hq3 : (w2.alloc (.cells #[.int .i64 ((prodAns F zs zs).getD 0)] 3)).cell? ⟨w2.heap.size, 0, none⟩ = some (.int .i64 ((prodAns F zs zs).getD 0)) := by simp [go_sem]
  replace hb0 := hA3.cell hb0
  replace hb1 := hA3.cell hb1
  replace hb2 := hb2.later hA3
  have HU3 := hid (HU2.out.later hA3)
  have HV3 := hid (HV2.out.later hA3)
  have HL3 := hid (HL2.out.trans hA3)
  have hs2 := hid HL2.out.size
  obtain ⟨hc2, hf2⟩ := id hb2
  have HB2 := hid hb2
  clear hb2 hA3 HU2 HV2 HL2
  cases hpa : prodAns F zs zs
  · have HM := hid (reflAns_none hpa)
    rw [hpa] at hq3 hb0 hb1 hc2 hf2 HU3 HV3 HL3 HB2
    simp only [Option.getD_none] at hq3 hb0 hb1 hc2 hf2 HU3 HV3 HL3 HB2
    clear hpa
    go_wp2_with fail
    have hc3 : ((w2.alloc (.cells #[.int .i64 0] 3)).setCell ⟨w.heap.size + 1 + 1, 0, none⟩ (.slice none 0 0)).cell? ⟨w.heap.size + 1 + 1, 0, none⟩ = some (.slice none 0 0) := World.cell?_setCell_same _ _ _ hc2
    refine bodyPost_ret (v := .tuple #[.agg #[.slice none 0 0], .bool false]) ?_ rfl ⟨_, by rw [HM.out]; rfl, by rw [HM.out]; exact OwnRows.empty _ _ _, ?_⟩
    · simp [results, Try.results34, go_sem, hc3]
    · exact (show Later w _ from Below.setCell HL3.out (by show w.heap.size ≤ w.heap.size + 1 + 1; omega) _)
  · rename_i q
    rw [hpa] at hq3 hb0 hb1 hc2 hf2 HU3 HV3 HL3 HB2
    simp only [Option.getD_some] at hq3 hb0 hb1 hc2 hf2 HU3 HV3 HL3 HB2
    by_cases hq : q = 0
    · subst hq
      have HM := hid (reflAns_zero hpa)
      clear hpa
      go_wp2_with fail
      have hc3 : ((w2.alloc (.cells #[.int .i64 0] 3)).setCell ⟨w.heap.size + 1 + 1, 0, none⟩ (.slice none 0 0)).cell? ⟨w.heap.size + 1 + 1, 0, none⟩ = some (.slice none 0 0) := World.cell?_setCell_same _ _ _ hc2
      refine bodyPost_ret (v := .tuple #[.agg #[.slice none 0 0], .bool false]) ?_ rfl ⟨_, by rw [HM.out]; rfl, by rw [HM.out]; exact OwnRows.empty _ _ _, ?_⟩
      · simp [results, Try.results34, go_sem, hc3]
      · exact (show Later w _ from Below.setCell HL3.out (by show w.heap.size ≤ w.heap.size + 1 + 1; omega) _)
    · have hqd : (q == 0) = false := by simp [hq]
      have HQ := hid hq
      have HPA := hid hpa
      clear hpa hq
      have hok := HPA.out
      unfold prodAns at hok
      split at hok
      · rename_i hfv
        rw [Bool.and_eq_true, Bool.and_eq_true] at hfv
        have hsq := goodM_sq (by have := hfv.1; unfold formW at this; rw [Bool.and_eq_true] at this; exact this.1)
        have hzl : zs.length = F.length := by have := hfv.2.1; unfold vecOK at this; rw [Bool.and_eq_true, decide_eq_true_eq] at this; exact this.1
        have HSQ := hid hsq
        have HZL := hid hzl
        have hn4 : zs.length ≤ 4 := by have := hsq.2.1; omega
        have hpl := hid (show (applyW F zs).length = zs.length by simp [applyW, hzl])
        have hsz3 : (w2.alloc (.cells #[.int .i64 q] 3)).heap.size = w2.heap.size + 1 := by simp
        clear hok hfv hsq hzl
        go_wp2_with fail
        generalize w2.alloc (.cells #[.int .i64 q] 3) = w3 at hq3 hb0 hb1 hc2 hf2 HU3 HV3 HL3 HB2 hsz3 ⊢
        refine (appliedTo_any F.length F HSQ.out.2.2 (by have := HSQ.out.2.1; omega) zs HZL.out _ _ _ HU3.out HV3.out).mono ?_
        rintro e w4 ⟨v4, rfl, ho, hL⟩
        obtain ⟨a4, c4, rfl, _⟩ := ho.shape
        have HI4 := hid ho.ints
        have hb14 := hL.cell hb1
        have hq4 := hL.cell hq3
        have HV4 := hid (HV3.out.later hL)
        have HL4 := hid (HL3.out.trans hL)
        have HB4 := hid (HB2.out.later hL)
        clear ho hL hb0 hb1 hq3 hc2 hf2
        have g1 := hid (show ((w4.alloc (.cells #[.slice a4 (applyW F zs).length c4] 28)).alloc (.cells #[.bool true] 4)).cell? ⟨w4.heap.size, 0, none⟩ = some (.slice a4 (applyW F zs).length c4) by simp [go_sem])
        have g2 := hid (show Box ((w4.alloc (.cells #[.slice a4 (applyW F zs).length c4] 28)).alloc (.cells #[.bool true] 4)) (w4.heap.size + 1) (.bool true) from ⟨by simp [go_sem], by simp [go_sem]⟩)
        have g3 := hid (show Later w4 ((w4.alloc (.cells #[.slice a4 (applyW F zs).length c4] 28)).alloc (.cells #[.bool true] 4)) from (Later.alloc _ _).trans (Later.alloc _ _))
        have g4 := hid (show ((w4.alloc (.cells #[.slice a4 (applyW F zs).length c4] 28)).alloc (.cells #[.bool true] 4)).heap.size = w4.heap.size + 2 by simp)
        have hb1g := g3.out.cell hb14
        go_wp2_with fail
        generalize (w4.alloc (.cells #[.slice a4 (applyW F zs).length c4] 28)).alloc (.cells #[.bool true] 4) = wg at g1 g2 g3 g4 hb1g ⊢
        refine (reflGrid_any zs.length zs (applyW F zs) rfl hpl.out (w.heap.size + 1) w2.heap.size _ _ q HQ.out w4 wg (by omega) hb14 hq4 HV4.out HI4.out g4.out g3.out g1.out g2.out).mono ?_
        rintro e w5 ⟨r, rfl, ho, hL5, hall⟩
        obtain ⟨a5, c5, rfl, _⟩ := ho.shape
        have HO := hid (ho.wide (show w4.heap.size ≤ wg.heap.size by have := g4.out; omega) (Nat.le_refl _))
        have HL45 := hid hL5
        have HB5 := hid (HB4.out.later hL5)
        have HL5 := hid (HL4.out.trans hL5)
        obtain ⟨hc2, hf2⟩ := HB5.out
        have hs4 := hid HL4.out.size
        clear ho hL5 hb14 hq4 hb1g g1 g2 g3 g4
        cases hw : wholeN zs.length q zs (applyW F zs) (zs.length * zs.length)
        · have HM := hid (reflAns_part HPA.out (by rw [← HZL.out]; exact hw))
          rw [hw] at hall
          clear hw
          go_wp2_with fail
          have hc3 : (w5.setCell ⟨w.heap.size + 1 + 1, 0, none⟩ (.slice none 0 0)).cell? ⟨w.heap.size + 1 + 1, 0, none⟩ = some (.slice none 0 0) := World.cell?_setCell_same _ _ _ hc2
          refine bodyPost_ret (v := .tuple #[.agg #[.slice none 0 0], .bool false]) ?_ rfl ⟨_, by rw [HM.out]; rfl, by rw [HM.out]; exact OwnRows.empty _ _ _, ?_⟩
          · simp [results, Try.results34, go_sem, hc3]
          · exact (show Later w _ from Below.setCell HL5.out (by show w.heap.size ≤ w.heap.size + 1 + 1; omega) _)
        · have HM := hid (reflAns_yes HPA.out HQ.out (by rw [← HZL.out]; exact hw))
          rw [hw] at hall
          clear hw
          go_wp2_with fail
          refine (matrixOf_ans w4 _ (reflM zs.length q zs (applyW F zs)) _ HL45.out HO.out).mono ?_
          rintro e w7 ⟨v7, rfl, ho7, hL7⟩
          obtain ⟨a7, cap7, rfl, _⟩ := ho7.shape
          have HB7 := hid (HB4.out.later hL7)
          have HL7 := hid (HL4.out.trans hL7)
          have HO7 := hid ho7
          clear hL7 ho7 hc2 hf2 hall
          obtain ⟨hc2, hf2⟩ := HB7.out
          go_wp2_with fail
          have hc3 := World.cell?_setCell_same w7 ⟨w.heap.size + 1 + 1, 0, none⟩ (.slice a7 ((ifGood (reflM zs.length q zs (applyW F zs))).getD []).length cap7) hc2
          refine bodyPost_ret (v := .tuple #[.agg #[.slice a7 ((ifGood (reflM zs.length q zs (applyW F zs))).getD []).length cap7], .bool (ifGood (reflM zs.length q zs (applyW F zs))).isSome]) (by simp [results, Try.results34, go_sem, hc3]) rfl ⟨_, by rw [HM.out, ← HZL.out], ?_, ?_⟩
          · rw [HM.out, ← HZL.out]
            have := HB4.out.lt
            exact (HO7.out.setCell (a := ⟨w.heap.size + 1 + 1, 0, none⟩) (by simp; omega) _).wide hs4.out (by simp [World.setCell])
          · exact (show Later w _ from Below.setCell HL7.out (by show w.heap.size ≤ w.heap.size + 1 + 1; omega) _)
      · cases hok
end Go.Proofs.Ytmlnpnglafipbab
