/- InverseOf: the model's, all. -/
import Derived.Test.YtedgccbogjinhaaInvS
namespace Go.Proofs.Ytedgccbogjinhaa
open Go.RowKit

set_option maxRecDepth 4000 in
set_option maxHeartbeats 4000000 in
theorem specInverseOf_any (v : Value) (m : List (List Int)) (w : World) (h : RowsC w v m) :
    Calls Try.prog 36 #[.agg #[v]] w fun e w' => MatAns w (invAns m) e w' := by
  obtain ⟨a, cap, rfl, hl, _⟩ := id h.1
  have hL := (Later.alloc w (.cells #[Value.slice a m.length cap] 27)).trans (Later.alloc _ (.cells #[Value.slice none 0 0] 27))
  have hb0 : Box ((w.alloc (.cells #[Value.slice a m.length cap] 27)).alloc (.cells #[Value.slice none 0 0] 27)) w.heap.size (.slice a m.length cap) := ⟨by simp [go_sem], by simp [go_sem]⟩
  have hb1 : Box ((w.alloc (.cells #[Value.slice a m.length cap] 27)).alloc (.cells #[Value.slice none 0 0] 27)) (w.heap.size + 1) (.slice none 0 0) := ⟨by simp [go_sem], by simp [go_sem]⟩
  have HR := hid (h.later hL)
  have HL := hid hL
  have hc0 := hb0.1
  have hs : w.heap.size + 2 ≤ ((w.alloc (.cells #[Value.slice a m.length cap] 27)).alloc (.cells #[Value.slice none 0 0] 27)).heap.size := by simp
  have HB0 := hid hb0
  have HB1 := hid hb1
  clear h hL hb0 hb1
  go_enter Try.func36, Try.ntmps36
  go_wp2_with fail
  generalize (w.alloc (.cells #[Value.slice a m.length cap] 27)).alloc (.cells #[Value.slice none 0 0] 27) = w1 at hc0 hs HB0 HB1 HR HL ⊢
  refine (foSmall_any _ m 1000 _ ⟨by omega, by omega⟩ HR.out.1).mono ?_
  rintro e w2 ⟨rfl, hL2⟩
  have hB1 := HB1.out.later hL2
  have hB0 := HB0.out.later hL2
  have hR2 := HR.out.later hL2
  have hLL2 := HL.out.trans hL2
  have hs2 : w.heap.size + 2 ≤ w2.heap.size := by have := hL2.size; omega
  clear HB0 HB1 HR HL hc0 hL2 hs
  cases hg : goodM 1000 m
  · have HA := hid (show invAns m = none by unfold invAns; rw [if_neg (by rw [hg]; simp)])
    have hc1 := hB1.1
    have hf1 := hB1.2
    have HLL := hid hLL2
    clear hg hB0 hB1 hR2 hLL2
    go_wp2_with fail
    refine bodyPost_ret (v := .tuple #[.agg #[.slice none 0 0], .bool false]) (by simp [results, Try.results36, go_sem, hc1]) rfl ⟨_, by rw [HA.out]; rfl, by rw [HA.out]; exact OwnRows.empty _ _ _, ?_⟩
    first | exact HLL.out | exact HLL.out.setCell (by simp) _
  · have hsq := goodM_sq hg
    obtain ⟨n, hn⟩ : ∃ n, m.length = n + 1 := ⟨m.length - 1, by omega⟩
    have hc0 := hB0.1
    have HR2 := hid hR2
    have HSQ := hid hsq.2.2
    have HG := hid hg
    have HN := hid hn
    have HB0 := hid hB0
    have HB1 := hid hB1
    have HLL2 := hid hLL2
    have hm4 : m.length ≤ 4 := hsq.2.1
    clear hg hB0 hB1 hR2 hLL2 hsq hn
    go_wp2_with fail
    refine (foDeterminant_any m.length (by omega) m HSQ.out _ w2 HR2.out).mono ?_
    rintro e w3 ⟨rfl, hL3⟩
    have hB1 := HB1.out.later hL3
    have hc1 := hB1.1
    have hf1 := hB1.2
    have hB0 := HB0.out.later hL3
    have HR := hid (HR2.out.later hL3)
    have HL := hid (HLL2.out.trans hL3)
    have hs3 : w.heap.size + 2 ≤ w3.heap.size := by have := hL3.size; omega
    have hc0' := hB0.1
    clear hc0 HR2 HB0 HB1 HLL2 hL3 hs2
    by_cases hu : unitDet m
    · have HA := hid (show invAns m = ifGood (invM (det m.length m) (m.length - 1) m) by unfold invAns; rw [if_pos ⟨HG.out, hu⟩])
      obtain ⟨d, hd⟩ : ∃ d, d = det m.length m := ⟨_, rfl⟩
      rw [← hd] at HA ⊢
      have HU := hid (show d = 1 ∨ d = -1 by rw [hd]; exact hu)
      clear hu hd
      rw [show m.length - 1 = n by rw [HN.out]; omega] at HA
      have HMK := hid (show mk m.length (invS d n m) = invM d n m by rw [HN.out]; exact mk_congr _ _ _ fun i j _ _ => invS_eq d HU.out n m i j)
      have hdd : (d != 1) = false ∨ ((d != 1) = true ∧ (d != -1) = false) := by rcases HU.out with h | h <;> subst h <;> simp
      have HB0 := hid hB0
      have HB1 := hid hB1
      clear hB0 hB1 hc1 hf1
      rcases hdd with hb1 | ⟨hb1, hb2⟩
      all_goals
        go_wp2_with fail
        refine (foZero_any m.length _ (by omega)).mono ?_
        rintro e w4 ⟨v4, rfl, ho4, hL4⟩
        obtain ⟨a4, cap4, hv4, _⟩ := ho4.shape
        rw [show (zeroM m.length m.length).length = m.length by simp [zeroM]] at hv4
        subst hv4
        have hA := Later.alloc w4 (.cells #[Value.slice a4 m.length cap4] 27)
        have hb4 : Box (w4.alloc (.cells #[Value.slice a4 m.length cap4] 27)) w4.heap.size (.slice a4 m.length cap4) := ⟨by simp [go_sem], by simp [go_sem]⟩
        have hsz4 : w4.heap.size < (w4.alloc (.cells #[Value.slice a4 m.length cap4] 27)).heap.size := by simp
        have hss := hL4.size
        have HO := hid (ho4.later hA)
        have HL45 : Hid (Later w3 (w4.alloc (.cells #[Value.slice a4 m.length cap4] 27))) := hid (hL4.trans hA)
        have hc0 := (HB0.out.later HL45.out).1
        have HB4 := hid hb4
        clear ho4 hL4 hA hc0' hb4
        go_wp2_with fail
        clear hc0
        generalize w4.alloc (.cells #[Value.slice a4 m.length cap4] 27) = w5 at hsz4 HO HL45 HB4 ⊢
        generalize w4.heap.size = B at hsz4 hss HO HB4 ⊢
        clear w4
        go_loopw [30] (fun x wr => ∃ i : Nat, i ≤ m.length ∧ x = .int .i64 i ∧ OwnRows w3.heap.size B wr (.slice a4 m.length cap4) (mk m.length (fillSt (invS d n m) i 0)) ∧ Later w3 wr ∧ Box wr B (.slice a4 m.length cap4)) (fun x _ => m.length - (intOf x).toNat)
        case atStart => exact ⟨0, Nat.zero_le _, rfl, by rw [fillSt_zero]; exact HO.out, HL45.out, HB4.out⟩
        case round =>
          clear HO HL45 HB4 hsz4
          obtain ⟨i, hi, rfl, hO, hL, hB⟩ := hrel
          by_cases hlt : i < m.length
          · have hc0 := (HB0.out.later hL).1
            have HOi := hid hO
            have HLi := hid hL
            have HBi := hid hB
            clear hO hL hB
            go_wp2_with fail
            clear hc0
            go_loopw [36] (fun y wq => ∃ j : Nat, j ≤ m.length ∧ y = .int .i64 j ∧ OwnRows w3.heap.size B wq (.slice a4 m.length cap4) (mk m.length (fillSt (invS d n m) i j)) ∧ Later w3 wq ∧ Box wq B (.slice a4 m.length cap4)) (fun y _ => m.length - (intOf y).toNat)
            case atStart => exact ⟨0, Nat.zero_le _, rfl, HOi.out, HLi.out, HBi.out⟩
            case round =>
              clear HOi HLi HBi
              obtain ⟨j, hj, rfl, hO, hL, hB⟩ := hrel
              by_cases hjt : j < m.length
              · have hc0 := (HB0.out.later hL).1
                have HM := hid (foMinor_any n m (by rw [← HN.out]; exact HSQ.out) (by have := HN.out; omega) i j (by have := HN.out; omega) (by have := HN.out; omega) _ wr (HR.out.later hL))
                have HO := hid hO
                have HLq := hid hL
                have HBq := hid hB
                have hi4 : (i : Int) ≤ 4 := by omega
                have hj4 : (j : Int) ≤ 4 := by omega
                clear hO hL hB
                go_wp2_with fail
                refine HM.out.mono ?_
                rintro e w6 ⟨v6, rfl, ho6, hL6⟩
                have HO6 := hid ho6.rowsC
                have HL6 := hid hL6
                clear ho6 hL6 HM hc0
                go_wp2_with fail
                refine (foDeterminant_any n (by have := HN.out; omega) _ (minorM_sq n m i j) v6 _ HO6.out).mono ?_
                rintro e w7 ⟨rfl, hL7⟩
                have hLL := HL6.out.trans hL7
                have hO7 := HO.out.later hLL
                have hB7 := HBq.out.later hLL
                have hL7' := HLq.out.trans hLL
                obtain ⟨g, cg, gu, cu, hv, h1, h2, hcg, hcu, hfu, hset⟩ := hO7.at2 j i hjt hlt
                simp only [Value.slice.injEq, true_and] at hv
                obtain ⟨rfl, rfl⟩ := hv
                have hbx := hB7.1
                have hst := (hset (invS d n m j i)).1
                rw [fillSt_step _ _ _ _ rfl] at hst
                have HST := hid (And.intro hst (And.intro (hL7'.setCell (p := ⟨gu, i, none⟩) h1 (.int .i64 (invS d n m j i))) (hB7.other (a := ⟨gu, i, none⟩) (by simp; omega) (.int .i64 (invS d n m j i)))))
                clear hset hst hO7 hB7 hL7' hLL hL7 HO HLq HBq HO6 HL6
                rcases Nat.mod_two_eq_zero_or_one (i + j) with hp | hp
                all_goals
                  have hp2 : ((i : Int) + (j : Int)) % 2 = (((i + j) % 2 : Nat) : Int) := by omega
                  rw [hp] at hp2
                  have HF := hid (show invS d n m j i = _ from by unfold invS; simp only [hp]; rfl)
                  rw [HF.out] at HST
                  clear HF hp
                  generalize det n (minorM n m i j) = D at HST ⊢
                  go_wp2_with fail
                  go_roundw
                  case rel => exact ⟨j + 1, hjt, by go_num, HST.out.1, HST.out.2.1, HST.out.2.2⟩
                  case measure => simp [intOf]; omega
              · have hjn : j = m.length := by omega
                have HO2 := hid hO
                have HL2 := hid hL
                have HB2 := hid hB
                rw [hjn, fillSt_next] at HO2
                clear hO hL hB
                go_wp2_with fail
                go_roundw
                case rel => exact ⟨i + 1, hlt, by go_num, HO2.out, HL2.out, HB2.out⟩
                case measure => simp [intOf]; omega
          · have hin : i = m.length := by omega
            rw [hin, fillSt_full, HMK.out] at hO
            have hcb := hB.1
            have HO2 := hid hO
            have HL2 := hid hL
            have hBs := hB.lt
            clear hO hL hB
            go_wp2_with fail
            refine (foIf_any _ (invM d n m) _ HO2.out.rows).mono ?_
            rintro e w8 ⟨rfl, hL8⟩
            obtain ⟨hc1, hf1⟩ := HB1.out.later (HL2.out.trans hL8)
            have HL9 := hid (HL.out.trans (HL2.out.trans hL8))
            have HO9 := hid (HO2.out.later hL8)
            have hB8 : B < w8.heap.size := Nat.lt_of_lt_of_le hBs hL8.size
            clear hL8 HO2 HL2 hcb
            cases hgi : goodM 1000000 (invM d n m)
            · have HI := hid (show ifGood (invM d n m) = none by unfold ifGood; rw [hgi]; rfl)
              clear hgi
              go_wp2_with fail
              refine bodyPost_ret (v := .tuple #[.agg #[.slice none 0 0], .bool false]) (by simp [results, Try.results36, go_sem, hc1]) rfl ⟨_, by rw [HA.out, HI.out]; rfl, by rw [HA.out, HI.out]; exact OwnRows.empty _ _ _, ?_⟩
              first | exact HL9.out | exact HL9.out.setCell (by simp) _
            · have HI := hid (show ifGood (invM d n m) = some (invM d n m) by unfold ifGood; rw [hgi]; rfl)
              clear hgi
              go_wp2_with fail
              refine bodyPost_ret (v := .tuple #[.agg #[.slice a4 m.length cap4], .bool true]) (by simp [results, Try.results36, go_sem, hc1]) rfl ⟨_, by rw [HA.out, HI.out]; rfl, ?_, HL9.out.setCell (by simp) _⟩
              rw [HA.out, HI.out]
              exact (HO9.out.setCell (a := ⟨w.heap.size + 1, 0, none⟩) (by simp; omega) _).wide (by omega) (by simp [World.setCell]; omega)
    · have HA := hid (show invAns m = none by unfold invAns; rw [if_neg (fun h => hu h.2)])
      have h1 : ¬ det m.length m = 1 := fun h => hu (.inl h)
      have h2 : ¬ det m.length m = -1 := fun h => hu (.inr h)
      generalize det m.length m = d at h1 h2 ⊢
      clear hu hB0 hB1 hc0'
      have hb1 : (d != 1) = true := by simp [h1]
      have hb2 : (d != -1) = true := by simp [h2]
      go_wp2_with fail
      all_goals
        refine bodyPost_ret (v := .tuple #[.agg #[.slice none 0 0], .bool false]) (by simp [results, Try.results36, go_sem, hc1]) rfl ⟨_, by rw [HA.out]; rfl, by rw [HA.out]; exact OwnRows.empty _ _ _, ?_⟩
        first | exact HL.out | exact HL.out.setCell (by simp) _
end Go.Proofs.Ytedgccbogjinhaa
