/- Products of matrices: the model's. -/
import Derived.Test.YtkpnckcfoigceaaMul
import Derived.StillTailTactics
namespace Go.Proofs.Ytkpnckcfoigceaa
open Go.RowKit

/-- rows before i are laid, of row i the columns before j; at (i, j) stands x -/
def sumSt (F : Nat → Nat → Int) (i j : Nat) (x : Int) : Nat → Nat → Int := fun a b => if a < i ∨ (a = i ∧ b < j) then F a b else if a = i ∧ b = j then x else 0
theorem sumSt_at (F : Nat → Nat → Int) (i j : Nat) (x : Int) : sumSt F i j x i j = x := by
  unfold sumSt; rw [if_neg (by omega), if_pos ⟨rfl, rfl⟩]
theorem sumSt_upd (F : Nat → Nat → Int) (i j : Nat) (x y : Int) : upd (sumSt F i j x) i j y = sumSt F i j y := by
  funext a b
  unfold upd sumSt
  by_cases h1 : a = i ∧ b = j
  · rw [if_pos h1, if_neg (by omega), if_pos h1]
  · simp only [if_neg h1]
theorem sumSt_next (F : Nat → Nat → Int) (i j : Nat) : sumSt F i j (F i j) = sumSt F i (j + 1) 0 := by
  funext a b
  unfold sumSt
  by_cases h1 : a < i ∨ (a = i ∧ b < j)
  · rw [if_pos h1, if_pos (by omega)]
  · by_cases h2 : a = i ∧ b = j
    · obtain ⟨rfl, rfl⟩ := h2
      rw [if_neg h1, if_pos ⟨rfl, rfl⟩, if_pos (by omega)]
    · rw [if_neg h1, if_neg h2, if_neg (by omega)]
      split <;> rfl
theorem sumSt_row (n : Nat) (F : Nat → Nat → Int) (i : Nat) : mk n (sumSt F i n 0) = mk n (sumSt F (i + 1) 0 0) := by
  refine mk_congr n _ _ fun a b ha hb => ?_
  unfold sumSt
  by_cases h1 : a < i ∨ (a = i ∧ b < n)
  · rw [if_pos h1, if_pos (by omega)]
  · rw [if_neg h1, if_neg (by omega), if_neg (by omega)]
    split <;> rfl
theorem sumSt_zero (n : Nat) (F : Nat → Nat → Int) : mk n (sumSt F 0 0 0) = zeroM n n := by
  have h : ∀ a b, sumSt F 0 0 0 a b = 0 := by
    intro a b; unfold sumSt; rw [if_neg (by omega)]; split <;> rfl
  apply List.ext_getElem
  · simp [mk, zeroM]
  · intro a h1 h2
    simp [mk, zeroM, h]
    exact (List.map_const' ..).symm ▸ by simp
theorem sumSt_full (n : Nat) (F : Nat → Nat → Int) : mk n (sumSt F n 0 0) = mk n F := by
  refine mk_congr n _ _ fun a b ha hb => ?_
  unfold sumSt
  rw [if_pos (Or.inl ha)]

set_option maxRecDepth 4000 in
set_option maxHeartbeats 4000000 in
theorem foTimes_any (n : Nat) (A C : List (List Int)) (hqa : Sq n A) (hqc : Sq n C) (va vc : Value) (w : World) (hn : n ≤ 1048576) (hA : Rows2 w va A) (hC : Rows2 w vc C) :
    Calls Try.prog 28 #[.agg #[va], .agg #[vc]] w fun e w' => MadeMat w (mulM n A C) e w' := by
  obtain ⟨a, cap, rfl, hl⟩ := hA.sqForm hqa
  obtain ⟨a', cap', rfl, _⟩ := hC.sqForm hqc
  have hL := ((Later.alloc w (.cells #[Value.slice a n cap] 27)).trans (Later.alloc _ (.cells #[Value.slice a' n cap'] 27))).trans (Later.alloc _ (.cells #[Value.slice none 0 0] 27))
  have hb0 : Box (((w.alloc (.cells #[Value.slice a n cap] 27)).alloc (.cells #[Value.slice a' n cap'] 27)).alloc (.cells #[Value.slice none 0 0] 27)) w.heap.size (.slice a n cap) := ⟨by simp [go_sem], by simp [go_sem]⟩
  have hb1 : Box (((w.alloc (.cells #[Value.slice a n cap] 27)).alloc (.cells #[Value.slice a' n cap'] 27)).alloc (.cells #[Value.slice none 0 0] 27)) (w.heap.size + 1) (.slice a' n cap') := ⟨by simp [go_sem], by simp [go_sem]⟩
  have hb2 : Box (((w.alloc (.cells #[Value.slice a n cap] 27)).alloc (.cells #[Value.slice a' n cap'] 27)).alloc (.cells #[Value.slice none 0 0] 27)) (w.heap.size + 1 + 1) (.slice none 0 0) := ⟨by simp [go_sem], by simp [go_sem]⟩
  have hs : w.heap.size + 3 ≤ (((w.alloc (.cells #[Value.slice a n cap] 27)).alloc (.cells #[Value.slice a' n cap'] 27)).alloc (.cells #[Value.slice none 0 0] 27)).heap.size := by simp
  have HA := hid (hA.later hL)
  have HC := hid (hC.later hL)
  have HL := hid hL
  have HQA := hid hqa
  have HQC := hid hqc
  have hc0 := hb0.1
  have HB0 := hid hb0
  have HB1 := hid hb1
  have HB2 := hid hb2
  clear hA hC hL hqa hqc hb0 hb1 hb2
  go_enter Try.func28, Try.ntmps28
  go_wp2_with fail
  generalize ((w.alloc (.cells #[Value.slice a n cap] 27)).alloc (.cells #[Value.slice a' n cap'] 27)).alloc (.cells #[Value.slice none 0 0] 27) = w3 at hs HA HC HL hc0 HB0 HB1 HB2 ⊢
  refine (foZero_any n _ hn).mono ?_
  rintro e w4 ⟨v4, rfl, ho4, hL4⟩
  obtain ⟨a4, cap4, hv4, _⟩ := ho4.shape
  rw [show (zeroM n n).length = n by simp [zeroM]] at hv4
  subst hv4
  have hAl := Later.alloc w4 (.cells #[Value.slice a4 n cap4] 27)
  have hb4 : Box (w4.alloc (.cells #[Value.slice a4 n cap4] 27)) w4.heap.size (.slice a4 n cap4) := ⟨by simp [go_sem], by simp [go_sem]⟩
  have hss := hL4.size
  have HO := hid (ho4.later hAl)
  have HL45 : Hid (Later w3 (w4.alloc (.cells #[Value.slice a4 n cap4] 27))) := hid (hL4.trans hAl)
  have hc5 := (HB0.out.later HL45.out).1
  have HB4 := hid hb4
  clear ho4 hL4 hAl hc0 hb4
  go_wp2_with fail
  clear hc5
  generalize w4.alloc (.cells #[Value.slice a4 n cap4] 27) = w5 at HO HL45 HB4 ⊢
  generalize w4.heap.size = B at hss HO HB4 ⊢
  clear w4
  go_loopw [16] (fun x wr => ∃ i : Nat, i ≤ n ∧ x = .int .i64 i ∧ OwnRows w3.heap.size B wr (.slice a4 n cap4) (mk n (sumSt (mulAt n A C) i 0 0)) ∧ Later w3 wr ∧ Box wr B (.slice a4 n cap4)) (fun x _ => n - (intOf x).toNat)
  case atStart => exact ⟨0, Nat.zero_le _, rfl, by rw [sumSt_zero]; exact HO.out, HL45.out, HB4.out⟩
  case round =>
    clear HO HL45 HB4
    obtain ⟨i, hi, rfl, hO, hL, hB⟩ := hrel
    by_cases hlt : i < n
    · have hc0 := (HB0.out.later hL).1
      have HOi := hid hO
      have HLi := hid hL
      have HBi := hid hB
      clear hO hL hB
      go_wp2_with fail
      clear hc0
      go_loopw [22] (fun y wq => ∃ j : Nat, j ≤ n ∧ y = .int .i64 j ∧ OwnRows w3.heap.size B wq (.slice a4 n cap4) (mk n (sumSt (mulAt n A C) i j 0)) ∧ Later w3 wq ∧ Box wq B (.slice a4 n cap4)) (fun y _ => n - (intOf y).toNat)
      case atStart => exact ⟨0, Nat.zero_le _, rfl, HOi.out, HLi.out, HBi.out⟩
      case round =>
        clear HOi HLi HBi
        obtain ⟨j, hj, rfl, hO, hL, hB⟩ := hrel
        by_cases hjt : j < n
        · have hc0 := (HB0.out.later hL).1
          have HOj := hid hO
          have HLj := hid hL
          have HBj := hid hB
          clear hO hL hB
          go_wp2_with fail
          clear hc0
          go_loopw [28] (fun y wq => ∃ k : Nat, k ≤ n ∧ y = .int .i64 k ∧ OwnRows w3.heap.size B wq (.slice a4 n cap4) (mk n (sumSt (mulAt n A C) i j (wsum (fun k => wrap64 (ent A i k * ent C k j)) k))) ∧ Later w3 wq ∧ Box wq B (.slice a4 n cap4)) (fun y _ => n - (intOf y).toNat)
          case atStart => exact ⟨0, Nat.zero_le _, rfl, HOj.out, HLj.out, HBj.out⟩
          case round =>
            clear HOj HLj HBj
            obtain ⟨k, hk, rfl, hO, hL, hB⟩ := hrel
            by_cases hkt : k < n
            · have hW := hid (wsum_succ (fun k => wrap64 (ent A i k * ent C k j)) k)
              generalize wsum (fun k => wrap64 (ent A i k * ent C k j)) k = S at hW hO
              have hd := Later.drew wr
              obtain ⟨g, cg, gu, cu, hv, h1, h2, hcg, hcu, hfu, hset⟩ := (hO.later hd).at2 i j hlt hjt
              simp only [Value.slice.injEq, true_and] at hv
              obtain ⟨rfl, rfl⟩ := hv
              rw [sumSt_at] at hcu
              have hst := hset (wrap64 (S + wrap64 (ent A i k * ent C k j)))
              rw [sumSt_upd] at hst
              have hLd := hL.trans hd
              have hBd := hB.later hd
              have HST := hid (And.intro hst.1 (And.intro (hLd.setCell (p := ⟨gu, j, none⟩) h1 (.int .i64 (wrap64 (S + wrap64 (ent A i k * ent C k j))))) (hBd.other (a := ⟨gu, j, none⟩) (by simp; omega) (.int .i64 (wrap64 (S + wrap64 (ent A i k * ent C k j)))))))
              obtain ⟨ada, _, ara, cra, hva, hra, _, hxa⟩ := HA.out.ent HQA.out i hlt
              simp only [Value.slice.injEq, true_and] at hva
              obtain ⟨rfl, rfl⟩ := hva
              obtain ⟨ada2, rfl, hxa2⟩ := hxa k hkt
              obtain ⟨adc, _, arc, crc, hvc, hrc, _, hxc⟩ := HC.out.ent HQC.out k hkt
              simp only [Value.slice.injEq, true_and] at hvc
              obtain ⟨rfl, rfl⟩ := hvc
              obtain ⟨adc2, rfl, hxc2⟩ := hxc j hjt
              have c1 := hLd.cell hra
              have c2 := hLd.cell hxa2
              have c3 := hLd.cell hrc
              have c4 := hLd.cell hxc2
              have c5 := (HB0.out.later hLd).1
              have c6 := (HB1.out.later hLd).1
              have c7 := hBd.1
              have hi2 : (i : Int) < (n : Int) := by omega
              have hj2 : (j : Int) < (n : Int) := by omega
              have hk2 : (k : Int) < (n : Int) := by omega
              generalize ent A i k = x at c2 hW HST ⊢
              generalize ent C k j = y at c4 hW HST ⊢
              clear hset hst hO hL hB hra hxa hxa2 hrc hxc hxc2 hd hLd hBd
              go_wp2_with fail
              go_still_tail 27, (by kernel_rfl)
              change wpList _ _ _ _ _ wr.drew
              generalize wr.drew = wd at *
              go_wp2_with fail
              go_roundw
              case rel => exact ⟨k + 1, hkt, by go_num, by rw [hW.out]; exact HST.out.1, HST.out.2.1, HST.out.2.2⟩
              case measure => simp [intOf]; omega
            · have hkn : k = n := by omega
              have HO2 := hid hO
              have HL2 := hid hL
              have HB2' := hid hB
              rw [hkn, show wsum (fun k => wrap64 (ent A i k * ent C k j)) n = mulAt n A C i j from rfl, sumSt_next] at HO2
              clear hO hL hB
              go_wp2_with fail
              go_roundw
              case rel => exact ⟨j + 1, hjt, by go_num, HO2.out, HL2.out, HB2'.out⟩
              case measure => simp [intOf]; omega
        · have hjn : j = n := by omega
          have HO2 := hid hO
          have HL2 := hid hL
          have HB2' := hid hB
          rw [hjn, sumSt_row] at HO2
          clear hO hL hB
          go_wp2_with fail
          go_roundw
          case rel => exact ⟨i + 1, hlt, by go_num, HO2.out, HL2.out, HB2'.out⟩
          case measure => simp [intOf]; omega
    · have hin : i = n := by omega
      rw [hin, sumSt_full] at hO
      have hcb := hB.1
      obtain ⟨hcr, hfr⟩ := HB2.out.later hL
      have HO2 := hid hO
      have HL4 := hid (HL.out.trans hL)
      have hBs := hB.lt
      clear hO hL hB
      go_wp2_with fail
      refine bodyPost_ret (v := .agg #[.slice a4 n cap4]) (by simp [results, Try.results28, go_sem, hcr]) rfl ⟨_, rfl, ?_, ?_⟩
      · exact (HO2.out.setCell (a := ⟨w.heap.size + 1 + 1, 0, none⟩) (by simp; omega) _).wide (by omega) (by simp [World.setCell]; omega)
      · exact HL4.out.setCell (by simp; omega) _
end Go.Proofs.Ytkpnckcfoigceaa
