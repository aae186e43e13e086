/- The Cohn matrix, in the program. -/
import Derived.Test.YtmmapfdmdliifaaDoorCoI
import Derived.Test.YtmmapfdmdliifaaDoorWdI
namespace Go.Proofs.YtmmapfdmdliifaaDoor
open Go.RowKit

def gens2 : List (List (List Int)) := [[[2, 1], [1, 1]], [[5, 2], [2, 1]]]
def idxC (c : UInt8) : Int := (c.toNat : Int) - 97
theorem cohn_word : ∀ (l : List UInt8) (P : List (List Int)), P.length = 2 → (∀ c ∈ l, c = 97 ∨ c = 98) → wordF gens2 (l.map idxC) P = cohnF l P
  | [], _, _, _ => rfl
  | c :: r, P, hP, hc => by
    have ih := cohn_word r (mulM 2 P (genM c)) (mk_length 2 _) (fun x hx => hc x (List.mem_cons_of_mem _ hx))
    have hg : gens2.getD (idxC c).toNat [] = genM c := by
      rcases hc c (List.mem_cons_self ..) with rfl | rfl <;> rfl
    rw [List.map_cons]
    unfold wordF cohnF
    rw [hg, hP, ih]
theorem gens2_good : ∀ i, i < gens2.length → goodM 1000000 (gens2.getD i []) = true ∧ (gens2.getD i []).length = 2 := by
  intro i hi
  match i, hi with
  | 0, _ => exact ⟨by decide, rfl⟩
  | 1, _ => exact ⟨by decide, rfl⟩
theorem idx_list (l : List UInt8) (k : Nat) (c : UInt8) (h : l[k]? = some c) : ((l.map idxC).map (Value.int .i64))[k]? = some (.int .i64 (idxC c)) := by
  rw [List.getElem?_map, List.getElem?_map, h]; rfl
theorem mats_lit2 (W : World) (b q1 q2 q3 q4 q5 q6 : Nat) (h0 : W.cell? ⟨b, 0, none⟩ = some (.slice (some ⟨q3, 0, none⟩) 2 2)) (h1 : W.cell? ⟨b, 1, none⟩ = some (.slice (some ⟨q6, 0, none⟩) 2 2))
    (h2 : W.cell? ⟨q1, 0, none⟩ = some (.int .i64 2)) (h3 : W.cell? ⟨q1, 1, none⟩ = some (.int .i64 1)) (h4 : W.cell? ⟨q2, 0, none⟩ = some (.int .i64 1)) (h5 : W.cell? ⟨q2, 1, none⟩ = some (.int .i64 1))
    (h6 : W.cell? ⟨q3, 0, none⟩ = some (.slice (some ⟨q1, 0, none⟩) 2 2)) (h7 : W.cell? ⟨q3, 1, none⟩ = some (.slice (some ⟨q2, 0, none⟩) 2 2))
    (g2 : W.cell? ⟨q4, 0, none⟩ = some (.int .i64 5)) (g3 : W.cell? ⟨q4, 1, none⟩ = some (.int .i64 2)) (g4 : W.cell? ⟨q5, 0, none⟩ = some (.int .i64 2)) (g5 : W.cell? ⟨q5, 1, none⟩ = some (.int .i64 1))
    (g6 : W.cell? ⟨q6, 0, none⟩ = some (.slice (some ⟨q4, 0, none⟩) 2 2)) (g7 : W.cell? ⟨q6, 1, none⟩ = some (.slice (some ⟨q5, 0, none⟩) 2 2)) :
    Mats W (.slice (some ⟨b, 0, none⟩) 2 2) gens2 := by
  refine ⟨⟨b, 0, none⟩, 2, rfl, by decide, fun i hi => ?_⟩
  match i, hi with
  | 0, _ => exact ⟨_, by rw [addr_add0]; exact h0, rows_lit2 W q1 q2 q3 2 1 1 1 h2 h3 h4 h5 h6 h7⟩
  | 1, _ => exact ⟨_, by rw [addr_add0]; exact h1, rows_lit2 W q4 q5 q6 5 2 2 1 g2 g3 g4 g5 g6 g7⟩

set_option maxRecDepth 20000 in
set_option maxHeartbeats 4000000 in
theorem implCohnMatrix_any (s : ByteArray) (w : World) (hs : s.size ≤ 1048576) : Calls Tryd.prog 33 #[.string s] w fun e w' => MatAns w (cohnAns s.data.toList) e w' := by
  have hb0 : Box (w.alloc (Obj.cells #[Value.slice none 0 0] 38)) w.heap.size (.slice none 0 0) := ⟨by simp [go_sem], by simp [go_sem]⟩
  have HB0 := hid hb0
  have HL0 := hid (Later.alloc w (Obj.cells #[Value.slice none 0 0] 38))
  have HC := hid (fun b w' hb => implIsLetters_as s b w' hs hb)
  cases hb : lettersW s.data.toList
  · have HA := hid (show cohnAns s.data.toList = none by unfold cohnAns; rw [if_neg (by simp [hb])])
    have HB := hid hb
    rw [HA.out]
    clear hb hb0
    go_enter Tryd.func33, Tryd.ntmps33
    go_wp2_with fail
    refine (HC.out false _ HB.out).mono ?_
    rintro e w1 ⟨rfl, hL1⟩
    have HL1 := hid (HL0.out.trans hL1)
    obtain ⟨c1, f1⟩ := HB0.out.later hL1
    clear hL1
    go_wp2_with fail
    refine bodyPost_ret (v := .tuple #[.agg #[.slice none 0 0], .bool false]) (by simp [results, Tryd.results33, go_sem, c1]) rfl (MatAns.nothing rfl ?_)
    first | exact HL1.out | exact HL1.out.setCell (by simp) _
  · have HA := hid (show cohnAns s.data.toList = cohnF s.data.toList (unitM 2) by unfold cohnAns; rw [if_pos hb])
    obtain ⟨h1, h2, h3⟩ := (lettersW_iff _).1 hb
    have HWF := hid (cohn_word s.data.toList (unitM 2) (mk_length 2 _) (fun c hc => (isAB_iff c).1 (List.all_eq_true.1 h3 c hc)))
    have HAB := hid (fun K (hK : K < s.size) => (isAB_iff _).1 (List.all_eq_true.1 h3 (s[K]'hK) (List.mem_of_getElem? (byte_at s K hK))))
    have HAT := hid (fun K (hK : K < s.size) => idx_list s.data.toList K (s[K]'hK) (byte_at s K hK))
    have HLN := hid (show (s.data.toList.map idxC).length = s.size by rw [List.length_map, ← size_list])
    have HZ := hid (show ∀ i, i < (s.data.toList.map idxC).length → 0 ≤ (s.data.toList.map idxC).getD i 0 ∧ (s.data.toList.map idxC).getD i 0 < (gens2.length : Int) by
      intro i hi
      rw [List.length_map] at hi
      rw [← size_list] at hi
      have e := byte_at s i hi
      have h5 : (s.data.toList.map idxC).getD i 0 = idxC (s[i]'hi) := by rw [List.getD_eq_getElem?_getD, List.getElem?_map, e]; rfl
      rw [h5]
      rcases HAB.out i hi with h6 | h6 <;> rw [h6] <;> decide)
    rw [← size_list] at h1 h2
    have HB := hid hb
    obtain ⟨i0, hi, hz0, hz1, hz2⟩ := info_parts Tryd.infoInt
    have HBY := hid hz2
    rw [HA.out, ← HWF.out]
    obtain ⟨o, ho⟩ : ∃ o, wordF gens2 (s.data.toList.map idxC) (unitM 2) = o := ⟨_, rfl⟩
    have HO0 := hid ho
    rw [ho]
    clear hb hb0 h3 ho
    go_enter Tryd.func33, Tryd.ntmps33
    go_wp2_with fail
    refine (HC.out true _ HB.out).mono ?_
    rintro e w1 ⟨rfl, hL1⟩
    have HL1 := hid (HL0.out.trans hL1)
    have HB1 := hid (HB0.out.later hL1)
    clear hL1
    have hM0 : Mats (((((((w1.alloc (.cells #[Value.int .i64 2, Value.int .i64 1] 3)).alloc (.cells #[Value.int .i64 1, Value.int .i64 1] 3)).alloc (.cells #[.slice (some ⟨w1.heap.size, 0, none⟩) 2 2, .slice (some ⟨w1.heap.size + 1, 0, none⟩) 2 2] 60)).alloc (.cells #[Value.int .i64 5, Value.int .i64 2] 3)).alloc (.cells #[Value.int .i64 2, Value.int .i64 1] 3)).alloc (.cells #[.slice (some ⟨w1.heap.size + 1 + 1 + 1, 0, none⟩) 2 2, .slice (some ⟨w1.heap.size + 1 + 1 + 1 + 1, 0, none⟩) 2 2] 60)).alloc (.cells #[.slice (some ⟨w1.heap.size + 1 + 1, 0, none⟩) 2 2, .slice (some ⟨w1.heap.size + 1 + 1 + 1 + 1 + 1, 0, none⟩) 2 2] 38)) (.slice (some ⟨w1.heap.size + 1 + 1 + 1 + 1 + 1 + 1, 0, none⟩) 2 2) gens2 :=
      mats_lit2 _ (w1.heap.size + 1 + 1 + 1 + 1 + 1 + 1) (w1.heap.size) (w1.heap.size + 1) (w1.heap.size + 1 + 1) (w1.heap.size + 1 + 1 + 1) (w1.heap.size + 1 + 1 + 1 + 1) (w1.heap.size + 1 + 1 + 1 + 1 + 1) (by simp [go_sem]) (by simp [go_sem]) (by simp [go_sem]) (by simp [go_sem]) (by simp [go_sem]) (by simp [go_sem]) (by simp [go_sem]) (by simp [go_sem]) (by simp [go_sem]) (by simp [go_sem]) (by simp [go_sem]) (by simp [go_sem]) (by simp [go_sem]) (by simp [go_sem])
    have hLP : Later w1 (((((((w1.alloc (.cells #[Value.int .i64 2, Value.int .i64 1] 3)).alloc (.cells #[Value.int .i64 1, Value.int .i64 1] 3)).alloc (.cells #[.slice (some ⟨w1.heap.size, 0, none⟩) 2 2, .slice (some ⟨w1.heap.size + 1, 0, none⟩) 2 2] 60)).alloc (.cells #[Value.int .i64 5, Value.int .i64 2] 3)).alloc (.cells #[Value.int .i64 2, Value.int .i64 1] 3)).alloc (.cells #[.slice (some ⟨w1.heap.size + 1 + 1 + 1, 0, none⟩) 2 2, .slice (some ⟨w1.heap.size + 1 + 1 + 1 + 1, 0, none⟩) 2 2] 60)).alloc (.cells #[.slice (some ⟨w1.heap.size + 1 + 1, 0, none⟩) 2 2, .slice (some ⟨w1.heap.size + 1 + 1 + 1 + 1 + 1, 0, none⟩) 2 2] 38)) := ((((((Later.alloc w1 _).trans (Later.alloc _ _)).trans (Later.alloc _ _)).trans (Later.alloc _ _)).trans (Later.alloc _ _)).trans (Later.alloc _ _)).trans (Later.alloc _ _)
    obtain ⟨wa, hwa⟩ : ∃ wa, (((((((w1.alloc (.cells #[Value.int .i64 2, Value.int .i64 1] 3)).alloc (.cells #[Value.int .i64 1, Value.int .i64 1] 3)).alloc (.cells #[.slice (some ⟨w1.heap.size, 0, none⟩) 2 2, .slice (some ⟨w1.heap.size + 1, 0, none⟩) 2 2] 60)).alloc (.cells #[Value.int .i64 5, Value.int .i64 2] 3)).alloc (.cells #[Value.int .i64 2, Value.int .i64 1] 3)).alloc (.cells #[.slice (some ⟨w1.heap.size + 1 + 1 + 1, 0, none⟩) 2 2, .slice (some ⟨w1.heap.size + 1 + 1 + 1 + 1, 0, none⟩) 2 2] 60)).alloc (.cells #[.slice (some ⟨w1.heap.size + 1 + 1, 0, none⟩) 2 2, .slice (some ⟨w1.heap.size + 1 + 1 + 1 + 1 + 1, 0, none⟩) 2 2] 38)) = wa := ⟨_, rfl⟩
    have HWA := hid hwa
    have HSA := hid (show wa.heap.size = w1.heap.size + 1 + 1 + 1 + 1 + 1 + 1 + 1 by rw [← hwa]; simp)
    rw [hwa] at hM0 hLP
    have HM := hid hM0
    have HLa := hid (HL1.out.trans hLP)
    have HBa := hid (HB1.out.later hLP)
    clear hwa hM0 hLP
    go_wp2_with (at_make; refine wpList_make_full _ rfl _ _ 60 rfl (w.heap.size + 1) 3 i0 (.int .i64 0) 1 Tryd.underlying60 hi hz0 hz1 _ _ _ _ s.size rfl rfl rfl rfl ?b2 ?b3 ?b4 ?_)
    case b2 => rw [HBY.out]; omega
    case b3 => unfold maxLen; omega
    case b4 => rw [HWA.out]; exact HBa.out.lt
    rw [HWA.out]
    intro w2 hown hgrow
    have hL2 : Later wa w2 := (Below.refl _ _).grown hgrow (Nat.le_refl _) (by simp)
    have HF2 := hid (show Filled (w.heap.size + 1) 3 w2 (.slice (some ⟨w1.heap.size + 1 + 1 + 1 + 1 + 1 + 1 + 1, 0, none⟩) s.size s.size) s.size 0 ((s.data.toList.map idxC).map (Value.int .i64)) from ⟨_, hown, by simp⟩)
    have HL2 := hid hL2
    have HSZ := hid (show w.heap.size < (w1.heap.size + 1 + 1 + 1 + 1 + 1 + 1 + 1) by have := HBa.out.lt; rw [HSA.out] at this; exact this)
    clear hown hgrow hL2 HWA HB1 HL1 HB0 HL0
    generalize (w1.heap.size + 1 + 1 + 1 + 1 + 1 + 1 + 1) = B at HF2 HSZ HSA ⊢
    generalize (w1.heap.size + 1 + 1 + 1 + 1 + 1 + 1) = Q at HM ⊢
    go_wp2_with fail
    go_loopw [25] (fun i wr => ∃ k : Nat, k ≤ s.size ∧ i = .int .i64 k ∧ Filled (w.heap.size + 1) 3 wr (.slice (some ⟨B, 0, none⟩) s.size s.size) s.size k ((s.data.toList.map idxC).map (Value.int .i64)) ∧ Later wa wr) (fun i _ => s.size - (intOf i).toNat)
    case atStart => exact ⟨0, Nat.zero_le _, rfl, HF2.out, HL2.out⟩
    case round =>
      clear HF2 HL2
      obtain ⟨k, hk, rfl, hF, hL⟩ := hrel
      have HF := hid hF
      have HLr := hid hL
      by_cases hlt : k < s.size
      · have hltI : (k : Int) < (s.size : Int) := by omega
        obtain ⟨⟨u0, hu0⟩, hfr⟩ := hF.at hlt
        have hat := HAT.out k hlt
        rcases HAB.out k hlt with hc | hc
        · have hn : (s[k]'hlt).toNat = 97 := by rw [hc]; rfl
          have HF5 := hid (hF.step hlt (show ((s.data.toList.map idxC).map (Value.int .i64))[k]? = some (.int .i64 0) by rw [hat, hc]; rfl))
          have HL5 := hid (show Later wa (wr.setCell ⟨B, k, none⟩ (.int .i64 0)) from hL.setCell (p := ⟨B, k, none⟩) (Nat.le_of_eq HSA.out) _)
          clear hF hL hat hc
          go_wp2_with fail
          go_roundw
          case rel => exact ⟨k + 1, hlt, by go_num, HF5.out, HL5.out⟩
          case measure => simp [intOf]; omega
        · have hn : (s[k]'hlt).toNat = 98 := by rw [hc]; rfl
          have HF5 := hid (hF.step hlt (show ((s.data.toList.map idxC).map (Value.int .i64))[k]? = some (.int .i64 1) by rw [hat, hc]; rfl))
          have HL5 := hid (show Later wa (wr.setCell ⟨B, k, none⟩ (.int .i64 1)) from hL.setCell (p := ⟨B, k, none⟩) (Nat.le_of_eq HSA.out) _)
          clear hF hL hat hc
          go_wp2_with fail
          go_roundw
          case rel => exact ⟨k + 1, hlt, by go_num, HF5.out, HL5.out⟩
          case measure => simp [intOf]; omega
      · have hke : k = s.size := by omega
        subst hke
        have hfull := hF.full (by rw [List.length_map, HLN.out])
        have hin : Ints wr (.slice (some ⟨B, 0, none⟩) s.size s.size) (s.data.toList.map idxC) := (OwnInts.of hfull rfl).ints
        have HW := hid (WordMatrix_ok (.slice (some ⟨Q, 0, none⟩) 2 2) (.slice (some ⟨B, 0, none⟩) s.size s.size) gens2 (s.data.toList.map idxC) 2 wr (by decide) (by decide) (by decide) (by rw [HLN.out]; exact h2) (HM.out.later hL) hin gens2_good HZ.out)
        rw [HO0.out] at HW
        have HBr := hid (HBa.out.later hL)
        have HLw := hid (HLa.out.trans hL)
        clear hF hL hfull hin
        go_wp2_with fail
        refine (HW.out).mono ?_
        rintro e w3 ⟨v, rfl, hown, hL3⟩
        obtain ⟨cx, fx⟩ := HBr.out.later hL3
        have hlo := HBr.out.lt
        have HO := hid (hown.wide (show w.heap.size + 1 ≤ wr.heap.size by omega) (Nat.le_refl _))
        have HL := hid (HLw.out.trans hL3)
        obtain ⟨a9, c9, rfl, _⟩ := hown.shape
        clear hown hL3 hlo
        go_wp2_with fail
        refine bodyPost_ret (v := .tuple #[.agg #[.slice a9 (o.getD []).length c9], .bool o.isSome]) (by simp [results, Tryd.results33, go_sem, cx]) rfl ⟨_, rfl, ?_, HL.out.setCell (by simp) _⟩
        exact (HO.out.setCell (a := ⟨w.heap.size, 0, none⟩) (by simp) _).wide (by omega) (by simp [World.setCell])
end Go.Proofs.YtmmapfdmdliifaaDoor
