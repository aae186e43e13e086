/- CoJ, CoN, CoT, LawTripleOfWord: in one text. -/
import Derived.Test.YtmmapfdmdliifaaGreatDoorCoI
import Derived.Test.YtmmapfdmdliifaaGreatDoorWdI
import Derived.Test.YtmmapfdmdliifaaGreatDoorWdH
import Derived.Test.YtmmapfdmdliifaaGreatDoorMkM
import Derived.Test.YtmmapfdmdliifaaGreatDoorAns4
namespace Go.Proofs.YtmmapfdmdliifaaGreatDoor
open Go.RowKit


def gens2 : List (List (List Int)) := [[[2, 1], [1, 1]], [[5, 2], [2, 1]]]
def idxC (c : UInt8) : Int := (c.toNat : Int) - 97
theorem cohn_word : ∀ (l : List UInt8) (P : List (List Int)), P.length = 2 → (∀ c ∈ l, c = 97 ∨ c = 98) → wordF gens2 (l.map idxC) P = cohnF l P
  | [], _, _, _ => rfl
  | c :: r, P, hP, hc => by
    have ih := cohn_word r (mulM 2 P (genM c)) (mk_length 2 _) (fun x hx => hc x (List.mem_cons_of_mem _ hx))
    have hg : gens2.getD (idxC c).toNat [] = genM c := by
      rcases hc c (List.mem_cons_self ..) with rfl | rfl <;> rfl
    rw [List.map_cons]
    unfold wordF cohnF
    rw [hg, hP, ih]
theorem gens2_good : ∀ i, i < gens2.length → goodM 1000000 (gens2.getD i []) = true ∧ (gens2.getD i []).length = 2 := by
  intro i hi
  match i, hi with
  | 0, _ => exact ⟨by decide, rfl⟩
  | 1, _ => exact ⟨by decide, rfl⟩
theorem idx_list (l : List UInt8) (k : Nat) (c : UInt8) (h : l[k]? = some c) : ((l.map idxC).map (Value.int .i64))[k]? = some (.int .i64 (idxC c)) := by
  rw [List.getElem?_map, List.getElem?_map, h]; rfl
theorem mats_lit2 (W : World) (b q1 q2 q3 q4 q5 q6 : Nat) (h0 : W.cell? ⟨b, 0, none⟩ = some (.slice (some ⟨q3, 0, none⟩) 2 2)) (h1 : W.cell? ⟨b, 1, none⟩ = some (.slice (some ⟨q6, 0, none⟩) 2 2))
    (h2 : W.cell? ⟨q1, 0, none⟩ = some (.int .i64 2)) (h3 : W.cell? ⟨q1, 1, none⟩ = some (.int .i64 1)) (h4 : W.cell? ⟨q2, 0, none⟩ = some (.int .i64 1)) (h5 : W.cell? ⟨q2, 1, none⟩ = some (.int .i64 1))
    (h6 : W.cell? ⟨q3, 0, none⟩ = some (.slice (some ⟨q1, 0, none⟩) 2 2)) (h7 : W.cell? ⟨q3, 1, none⟩ = some (.slice (some ⟨q2, 0, none⟩) 2 2))
    (g2 : W.cell? ⟨q4, 0, none⟩ = some (.int .i64 5)) (g3 : W.cell? ⟨q4, 1, none⟩ = some (.int .i64 2)) (g4 : W.cell? ⟨q5, 0, none⟩ = some (.int .i64 2)) (g5 : W.cell? ⟨q5, 1, none⟩ = some (.int .i64 1))
    (g6 : W.cell? ⟨q6, 0, none⟩ = some (.slice (some ⟨q4, 0, none⟩) 2 2)) (g7 : W.cell? ⟨q6, 1, none⟩ = some (.slice (some ⟨q5, 0, none⟩) 2 2)) :
    Mats W (.slice (some ⟨b, 0, none⟩) 2 2) gens2 := by
  refine ⟨⟨b, 0, none⟩, 2, rfl, by decide, fun i hi => ?_⟩
  match i, hi with
  | 0, _ => exact ⟨_, by rw [addr_add0]; exact h0, rows_lit2 W q1 q2 q3 2 1 1 1 h2 h3 h4 h5 h6 h7⟩
  | 1, _ => exact ⟨_, by rw [addr_add0]; exact h1, rows_lit2 W q4 q5 q6 5 2 2 1 g2 g3 g4 g5 g6 g7⟩

set_option maxRecDepth 20000 in
set_option maxHeartbeats 4000000 in
theorem implCohnMatrix_any (s : ByteArray) (w : World) (hs : s.size ≤ 1048576) : Calls Tryz.prog 22 #[.string s] w fun e w' => MatAns w (cohnAns s.data.toList) e w' := by
  have hb0 : Box (w.alloc (Obj.cells #[Value.slice none 0 0] 32)) w.heap.size (.slice none 0 0) := ⟨by simp [go_sem], by simp [go_sem]⟩
  have HB0 := hid hb0
  have HL0 := hid (Later.alloc w (Obj.cells #[Value.slice none 0 0] 32))
  have HC := hid (fun b w' hb => implIsLetters_as s b w' hs hb)
  cases hb : lettersW s.data.toList
  · have HA := hid (show cohnAns s.data.toList = none by unfold cohnAns; rw [if_neg (by simp [hb])])
    have HB := hid hb
    rw [HA.out]
    clear hb hb0
    go_enter Tryz.func22, Tryz.ntmps22
    go_wp2_with fail
    refine (HC.out false _ HB.out).mono ?_
    rintro e w1 ⟨rfl, hL1⟩
    have HL1 := hid (HL0.out.trans hL1)
    obtain ⟨c1, f1⟩ := HB0.out.later hL1
    clear hL1
    go_wp2_with fail
    refine bodyPost_ret (v := .tuple #[.agg #[.slice none 0 0], .bool false]) (by simp [results, Tryz.results22, go_sem, c1]) rfl (MatAns.nothing rfl ?_)
    first | exact HL1.out | exact HL1.out.setCell (by simp) _
  · have HA := hid (show cohnAns s.data.toList = cohnF s.data.toList (unitM 2) by unfold cohnAns; rw [if_pos hb])
    obtain ⟨h1, h2, h3⟩ := (lettersW_iff _).1 hb
    have HWF := hid (cohn_word s.data.toList (unitM 2) (mk_length 2 _) (fun c hc => (isAB_iff c).1 (List.all_eq_true.1 h3 c hc)))
    have HAB := hid (fun K (hK : K < s.size) => (isAB_iff _).1 (List.all_eq_true.1 h3 (s[K]'hK) (List.mem_of_getElem? (byte_at s K hK))))
    have HAT := hid (fun K (hK : K < s.size) => idx_list s.data.toList K (s[K]'hK) (byte_at s K hK))
    have HLN := hid (show (s.data.toList.map idxC).length = s.size by rw [List.length_map, ← size_list])
    have HZ := hid (show ∀ i, i < (s.data.toList.map idxC).length → 0 ≤ (s.data.toList.map idxC).getD i 0 ∧ (s.data.toList.map idxC).getD i 0 < (gens2.length : Int) by
      intro i hi
      rw [List.length_map] at hi
      rw [← size_list] at hi
      have e := byte_at s i hi
      have h5 : (s.data.toList.map idxC).getD i 0 = idxC (s[i]'hi) := by rw [List.getD_eq_getElem?_getD, List.getElem?_map, e]; rfl
      rw [h5]
      rcases HAB.out i hi with h6 | h6 <;> rw [h6] <;> decide)
    rw [← size_list] at h1 h2
    have HB := hid hb
    obtain ⟨i0, hi, hz0, hz1, hz2⟩ := info_parts Tryz.infoInt
    have HBY := hid hz2
    rw [HA.out, ← HWF.out]
    obtain ⟨o, ho⟩ : ∃ o, wordF gens2 (s.data.toList.map idxC) (unitM 2) = o := ⟨_, rfl⟩
    have HO0 := hid ho
    rw [ho]
    clear hb hb0 h3 ho
    go_enter Tryz.func22, Tryz.ntmps22
    go_wp2_with fail
    refine (HC.out true _ HB.out).mono ?_
    rintro e w1 ⟨rfl, hL1⟩
    have HL1 := hid (HL0.out.trans hL1)
    have HB1 := hid (HB0.out.later hL1)
    clear hL1
    have hM0 : Mats (((((((w1.alloc (.cells #[Value.int .i64 2, Value.int .i64 1] 3)).alloc (.cells #[Value.int .i64 1, Value.int .i64 1] 3)).alloc (.cells #[.slice (some ⟨w1.heap.size, 0, none⟩) 2 2, .slice (some ⟨w1.heap.size + 1, 0, none⟩) 2 2] 22)).alloc (.cells #[Value.int .i64 5, Value.int .i64 2] 3)).alloc (.cells #[Value.int .i64 2, Value.int .i64 1] 3)).alloc (.cells #[.slice (some ⟨w1.heap.size + 1 + 1 + 1, 0, none⟩) 2 2, .slice (some ⟨w1.heap.size + 1 + 1 + 1 + 1, 0, none⟩) 2 2] 22)).alloc (.cells #[.slice (some ⟨w1.heap.size + 1 + 1, 0, none⟩) 2 2, .slice (some ⟨w1.heap.size + 1 + 1 + 1 + 1 + 1, 0, none⟩) 2 2] 32)) (.slice (some ⟨w1.heap.size + 1 + 1 + 1 + 1 + 1 + 1, 0, none⟩) 2 2) gens2 :=
      mats_lit2 _ (w1.heap.size + 1 + 1 + 1 + 1 + 1 + 1) (w1.heap.size) (w1.heap.size + 1) (w1.heap.size + 1 + 1) (w1.heap.size + 1 + 1 + 1) (w1.heap.size + 1 + 1 + 1 + 1) (w1.heap.size + 1 + 1 + 1 + 1 + 1) (by simp [go_sem]) (by simp [go_sem]) (by simp [go_sem]) (by simp [go_sem]) (by simp [go_sem]) (by simp [go_sem]) (by simp [go_sem]) (by simp [go_sem]) (by simp [go_sem]) (by simp [go_sem]) (by simp [go_sem]) (by simp [go_sem]) (by simp [go_sem]) (by simp [go_sem])
    have hLP : Later w1 (((((((w1.alloc (.cells #[Value.int .i64 2, Value.int .i64 1] 3)).alloc (.cells #[Value.int .i64 1, Value.int .i64 1] 3)).alloc (.cells #[.slice (some ⟨w1.heap.size, 0, none⟩) 2 2, .slice (some ⟨w1.heap.size + 1, 0, none⟩) 2 2] 22)).alloc (.cells #[Value.int .i64 5, Value.int .i64 2] 3)).alloc (.cells #[Value.int .i64 2, Value.int .i64 1] 3)).alloc (.cells #[.slice (some ⟨w1.heap.size + 1 + 1 + 1, 0, none⟩) 2 2, .slice (some ⟨w1.heap.size + 1 + 1 + 1 + 1, 0, none⟩) 2 2] 22)).alloc (.cells #[.slice (some ⟨w1.heap.size + 1 + 1, 0, none⟩) 2 2, .slice (some ⟨w1.heap.size + 1 + 1 + 1 + 1 + 1, 0, none⟩) 2 2] 32)) := ((((((Later.alloc w1 _).trans (Later.alloc _ _)).trans (Later.alloc _ _)).trans (Later.alloc _ _)).trans (Later.alloc _ _)).trans (Later.alloc _ _)).trans (Later.alloc _ _)
    obtain ⟨wa, hwa⟩ : ∃ wa, (((((((w1.alloc (.cells #[Value.int .i64 2, Value.int .i64 1] 3)).alloc (.cells #[Value.int .i64 1, Value.int .i64 1] 3)).alloc (.cells #[.slice (some ⟨w1.heap.size, 0, none⟩) 2 2, .slice (some ⟨w1.heap.size + 1, 0, none⟩) 2 2] 22)).alloc (.cells #[Value.int .i64 5, Value.int .i64 2] 3)).alloc (.cells #[Value.int .i64 2, Value.int .i64 1] 3)).alloc (.cells #[.slice (some ⟨w1.heap.size + 1 + 1 + 1, 0, none⟩) 2 2, .slice (some ⟨w1.heap.size + 1 + 1 + 1 + 1, 0, none⟩) 2 2] 22)).alloc (.cells #[.slice (some ⟨w1.heap.size + 1 + 1, 0, none⟩) 2 2, .slice (some ⟨w1.heap.size + 1 + 1 + 1 + 1 + 1, 0, none⟩) 2 2] 32)) = wa := ⟨_, rfl⟩
    have HWA := hid hwa
    have HSA := hid (show wa.heap.size = w1.heap.size + 1 + 1 + 1 + 1 + 1 + 1 + 1 by rw [← hwa]; simp)
    rw [hwa] at hM0 hLP
    have HM := hid hM0
    have HLa := hid (HL1.out.trans hLP)
    have HBa := hid (HB1.out.later hLP)
    clear hwa hM0 hLP
    go_wp2_with (at_make; refine wpList_make_full _ rfl _ _ 22 rfl (w.heap.size + 1) 3 i0 (.int .i64 0) 1 Tryz.underlying22 hi hz0 hz1 _ _ _ _ s.size rfl rfl rfl rfl ?b2 ?b3 ?b4 ?_)
    case b2 => rw [HBY.out]; omega
    case b3 => unfold maxLen; omega
    case b4 => rw [HWA.out]; exact HBa.out.lt
    rw [HWA.out]
    intro w2 hown hgrow
    have hL2 : Later wa w2 := (Below.refl _ _).grown hgrow (Nat.le_refl _) (by simp)
    have HF2 := hid (show Filled (w.heap.size + 1) 3 w2 (.slice (some ⟨w1.heap.size + 1 + 1 + 1 + 1 + 1 + 1 + 1, 0, none⟩) s.size s.size) s.size 0 ((s.data.toList.map idxC).map (Value.int .i64)) from ⟨_, hown, by simp⟩)
    have HL2 := hid hL2
    have HSZ := hid (show w.heap.size < (w1.heap.size + 1 + 1 + 1 + 1 + 1 + 1 + 1) by have := HBa.out.lt; rw [HSA.out] at this; exact this)
    clear hown hgrow hL2 HWA HB1 HL1 HB0 HL0
    generalize (w1.heap.size + 1 + 1 + 1 + 1 + 1 + 1 + 1) = B at HF2 HSZ HSA ⊢
    generalize (w1.heap.size + 1 + 1 + 1 + 1 + 1 + 1) = Q at HM ⊢
    go_wp2_with fail
    go_loopw [25] (fun i wr => ∃ k : Nat, k ≤ s.size ∧ i = .int .i64 k ∧ Filled (w.heap.size + 1) 3 wr (.slice (some ⟨B, 0, none⟩) s.size s.size) s.size k ((s.data.toList.map idxC).map (Value.int .i64)) ∧ Later wa wr) (fun i _ => s.size - (intOf i).toNat)
    case atStart => exact ⟨0, Nat.zero_le _, rfl, HF2.out, HL2.out⟩
    case round =>
      clear HF2 HL2
      obtain ⟨k, hk, rfl, hF, hL⟩ := hrel
      have HF := hid hF
      have HLr := hid hL
      by_cases hlt : k < s.size
      · have hltI : (k : Int) < (s.size : Int) := by omega
        obtain ⟨⟨u0, hu0⟩, hfr⟩ := hF.at hlt
        have hat := HAT.out k hlt
        rcases HAB.out k hlt with hc | hc
        · have hn : (s[k]'hlt).toNat = 97 := by rw [hc]; rfl
          have HF5 := hid (hF.step hlt (show ((s.data.toList.map idxC).map (Value.int .i64))[k]? = some (.int .i64 0) by rw [hat, hc]; rfl))
          have HL5 := hid (show Later wa (wr.setCell ⟨B, k, none⟩ (.int .i64 0)) from hL.setCell (p := ⟨B, k, none⟩) (Nat.le_of_eq HSA.out) _)
          clear hF hL hat hc
          go_wp2_with fail
          go_roundw
          case rel => exact ⟨k + 1, hlt, by go_num, HF5.out, HL5.out⟩
          case measure => simp [intOf]; omega
        · have hn : (s[k]'hlt).toNat = 98 := by rw [hc]; rfl
          have HF5 := hid (hF.step hlt (show ((s.data.toList.map idxC).map (Value.int .i64))[k]? = some (.int .i64 1) by rw [hat, hc]; rfl))
          have HL5 := hid (show Later wa (wr.setCell ⟨B, k, none⟩ (.int .i64 1)) from hL.setCell (p := ⟨B, k, none⟩) (Nat.le_of_eq HSA.out) _)
          clear hF hL hat hc
          go_wp2_with fail
          go_roundw
          case rel => exact ⟨k + 1, hlt, by go_num, HF5.out, HL5.out⟩
          case measure => simp [intOf]; omega
      · have hke : k = s.size := by omega
        subst hke
        have hfull := hF.full (by rw [List.length_map, HLN.out])
        have hin : Ints wr (.slice (some ⟨B, 0, none⟩) s.size s.size) (s.data.toList.map idxC) := (OwnInts.of hfull rfl).ints
        have HW := hid (WordMatrix_ok (.slice (some ⟨Q, 0, none⟩) 2 2) (.slice (some ⟨B, 0, none⟩) s.size s.size) gens2 (s.data.toList.map idxC) 2 wr (by decide) (by decide) (by decide) (by rw [HLN.out]; exact h2) (HM.out.later hL) hin gens2_good HZ.out)
        rw [HO0.out] at HW
        have HBr := hid (HBa.out.later hL)
        have HLw := hid (HLa.out.trans hL)
        clear hF hL hfull hin
        go_wp2_with fail
        refine (HW.out).mono ?_
        rintro e w3 ⟨v, rfl, hown, hL3⟩
        obtain ⟨cx, fx⟩ := HBr.out.later hL3
        have hlo := HBr.out.lt
        have HO := hid (hown.wide (show w.heap.size + 1 ≤ wr.heap.size by omega) (Nat.le_refl _))
        have HL := hid (HLw.out.trans hL3)
        obtain ⟨a9, c9, rfl, _⟩ := hown.shape
        clear hown hL3 hlo
        go_wp2_with fail
        refine bodyPost_ret (v := .tuple #[.agg #[.slice a9 (o.getD []).length c9], .bool o.isSome]) (by simp [results, Tryz.results22, go_sem, cx]) rfl ⟨_, rfl, ?_, HL.out.setCell (by simp) _⟩
        exact (HO.out.setCell (a := ⟨w.heap.size, 0, none⟩) (by simp) _).wide (by omega) (by simp [World.setCell])


def numAns (l : List UInt8) : Option Int := (cohnAns l).map fun M => (M.getD 0 []).getD 1 0
theorem cohnAns_sq (l : List UInt8) (M : List (List Int)) (h : cohnAns l = some M) : Sq 2 M := by
  unfold cohnAns at h
  split at h
  · exact cohnF_sq l _ M (Sq.mk' 2 _) h
  · cases h
theorem own_cell2 {lo hi : Nat} {w : World} {v : Value} {M : List (List Int)} (h : OwnRows lo hi w v M) (hq : Sq 2 M) :
    ∃ g c g' c', v = .slice (some ⟨g, 0, none⟩) 2 c ∧ w.cell? ⟨g, 0, none⟩ = some (.slice (some ⟨g', 0, none⟩) 2 c') ∧ w.cell? ⟨g', 1, none⟩ = some (.int .i64 ((M.getD 0 []).getD 1 0)) := by
  obtain ⟨g, cap, u, hv, hu, ho, _⟩ := h.row (i := 0) (by rw [hq.1]; decide)
  rw [hq.1] at hv
  rw [addr_add0] at hu
  have h2 := hq.2 0 (by decide)
  rcases ho.form with ⟨_, hz⟩ | ⟨g', c', hx⟩
  · rw [hz] at h2; cases h2
  · obtain ⟨a, cap', hx2, _, hc⟩ := ho.ints
    obtain ⟨ad, hxa, hcell⟩ := hc 1 (by rw [h2]; decide)
    rw [hx] at hx2
    subst hxa
    injection hx2 with e1 e2 e3
    injection e1 with e1
    subst e1
    rw [addr_add0] at hcell
    rw [hx, h2] at hu
    exact ⟨g, cap, g', c', hv, hu, hcell⟩

set_option maxRecDepth 20000 in
set_option maxHeartbeats 2000000 in
theorem specNumberOfWord_any (s : ByteArray) (w : World) (hs : s.size ≤ 1048576) : Calls Tryz.prog 11 #[.string s] w fun e w' => NumAns w (numAns s.data.toList) e w' := by
  have HM := hid (fun w' => specCohnMatrix_any s w' hs)
  cases hm : cohnAns s.data.toList with
  | none =>
    have HN := hid (show numAns s.data.toList = none by unfold numAns; rw [hm]; rfl)
    rw [hm] at HM
    rw [HN.out]
    clear hm
    go_enter Tryz.func11, Tryz.ntmps11
    go_wp2_with fail
    refine (HM.out _).mono ?_
    rintro e w1 ⟨v, rfl, hown, hL⟩
    obtain ⟨a1, c1, rfl, _⟩ := hown.shape
    have HL := hid hL
    clear hL hown
    have HA := hid (Later.alloc w1 (.cells #[.slice a1 ((none : Option (List (List Int))).getD []).length c1] 32))
    go_wp2_with fail
    go_ret2
    exact ⟨rfl, HL.out.trans HA.out⟩
  | some M =>
    have HN := hid (show numAns s.data.toList = some ((M.getD 0 []).getD 1 0) by unfold numAns; rw [hm]; rfl)
    have HQ := hid (cohnAns_sq _ M hm)
    rw [hm] at HM
    rw [HN.out]
    obtain ⟨x, hxe⟩ : ∃ x, (M.getD 0 []).getD 1 0 = x := ⟨_, rfl⟩
    have HXE := hid hxe
    rw [hxe]
    clear hm hxe
    go_enter Tryz.func11, Tryz.ntmps11
    go_wp2_with fail
    refine (HM.out _).mono ?_
    rintro e w1 ⟨v, rfl, hown, hL⟩
    obtain ⟨g, c, g', c', rfl, hu, hx⟩ := own_cell2 hown HQ.out
    have HL := hid hL
    simp only [Option.getD_some] at hx
    rw [HXE.out] at hx
    have hA := Later.alloc w1 (.cells #[.slice (some ⟨g, 0, none⟩) 2 c] 32)
    have cu := hA.cell hu
    have cx := hA.cell hx
    have HA := hid hA
    have c0 : (w1.alloc (.cells #[.slice (some ⟨g, 0, none⟩) 2 c] 32)).cell? ⟨w1.heap.size, 0, none⟩ = some (.slice (some ⟨g, 0, none⟩) 2 c) := by simp [go_sem]
    clear hL hown hu hx hA
    go_wp2_with fail
    go_ret2
    exact ⟨rfl, HL.out.trans HA.out⟩

set_option maxRecDepth 20000 in
set_option maxHeartbeats 2000000 in
theorem implNumberOfWord_any (s : ByteArray) (w : World) (hs : s.size ≤ 1048576) : Calls Tryz.prog 13 #[.string s] w fun e w' => NumAns w (numAns s.data.toList) e w' := by
  have HM := hid (fun w' => implCohnMatrix_any s w' hs)
  cases hm : cohnAns s.data.toList with
  | none =>
    have HN := hid (show numAns s.data.toList = none by unfold numAns; rw [hm]; rfl)
    rw [hm] at HM
    rw [HN.out]
    clear hm
    go_enter Tryz.func13, Tryz.ntmps13
    go_wp2_with fail
    refine (HM.out _).mono ?_
    rintro e w1 ⟨v, rfl, hown, hL⟩
    obtain ⟨a1, c1, rfl, _⟩ := hown.shape
    have HL := hid hL
    clear hL hown
    have HA := hid (Later.alloc w1 (.cells #[.slice a1 ((none : Option (List (List Int))).getD []).length c1] 32))
    go_wp2_with fail
    go_ret2
    exact ⟨rfl, HL.out.trans HA.out⟩
  | some M =>
    have HN := hid (show numAns s.data.toList = some ((M.getD 0 []).getD 1 0) by unfold numAns; rw [hm]; rfl)
    have HQ := hid (cohnAns_sq _ M hm)
    rw [hm] at HM
    rw [HN.out]
    obtain ⟨x, hxe⟩ : ∃ x, (M.getD 0 []).getD 1 0 = x := ⟨_, rfl⟩
    have HXE := hid hxe
    rw [hxe]
    clear hm hxe
    go_enter Tryz.func13, Tryz.ntmps13
    go_wp2_with fail
    refine (HM.out _).mono ?_
    rintro e w1 ⟨v, rfl, hown, hL⟩
    obtain ⟨g, c, g', c', rfl, hu, hx⟩ := own_cell2 hown HQ.out
    have HL := hid hL
    simp only [Option.getD_some] at hx
    rw [HXE.out] at hx
    have hA := Later.alloc w1 (.cells #[.slice (some ⟨g, 0, none⟩) 2 c] 32)
    have cu := hA.cell hu
    have cx := hA.cell hx
    have HA := hid hA
    have c0 : (w1.alloc (.cells #[.slice (some ⟨g, 0, none⟩) 2 c] 32)).cell? ⟨w1.heap.size, 0, none⟩ = some (.slice (some ⟨g, 0, none⟩) 2 c) := by simp [go_sem]
    clear hL hown hu hx hA
    go_wp2_with fail
    go_ret2
    exact ⟨rfl, HL.out.trans HA.out⟩


theorem ownNil (lo hi : Nat) (w : World) : OwnInts lo hi w (.slice none 0 0) [] := ⟨World.ownsRow_nil _ _ _ _, fun b hb => by simp [Value.ownBlock] at hb⟩
theorem cohnF_good : ∀ (l : List UInt8) (P M : List (List Int)), goodM 1000000 P = true → cohnF l P = some M → goodM 1000000 M = true
  | [], P, M, h, e => by simp [cohnF] at e; subst e; exact h
  | c :: r, P, M, _, e => by
    unfold cohnF at e
    split at e
    · rename_i hg; exact cohnF_good r _ M hg e
    · cases e
def numD (l : List UInt8) : Int := (numAns l).getD 0
theorem numD_le (l : List UInt8) : -4000000000 ≤ numD l ∧ numD l ≤ 4000000000 := by
  unfold numD numAns
  cases h : cohnAns l with
  | none => simp
  | some M =>
    have hq := cohnAns_sq l M h
    have hg : goodM 1000000 M = true := by
      unfold cohnAns at h
      split at h
      · exact cohnF_good l _ M (by decide) h
      · cases h
    have := goodM_ent hg 0 1 (by rw [hq.1]; decide) (by rw [hq.1]; decide)
    simp only [Option.map_some, Option.getD_some]
    unfold ent at this
    omega
def tripAns (l : List UInt8) : Option (List Int) := if isTwoW l = true then (cohnAns l).map fun _ => ordL (numD (l.take (splitW l))) (numD (l.drop (splitW l))) (numD l) else none
theorem fac_some2 {w : World} {l : List UInt8} {e : Ending} {w' : World} (h : isTwoW l = true) (hp : PairAns w (facAns l) e w') :
    e = .returned (.tuple #[.string ⟨(l.take (splitW l)).toArray⟩, .string ⟨(l.drop (splitW l)).toArray⟩, .bool true]) ∧ Later w w' := by
  rw [facAns_some h] at hp; exact hp
theorem fac_none2 {w : World} {l : List UInt8} {e : Ending} {w' : World} (h : isTwoW l = false) (hp : PairAns w (facAns l) e w') : e = .returned (.tuple #[.string ⟨#[]⟩, .string ⟨#[]⟩, .bool false]) ∧ Later w w' := by
  rw [facAns_none h] at hp; exact hp

set_option maxRecDepth 20000 in
set_option maxHeartbeats 2000000 in
theorem specTripleOfWord_any (s : ByteArray) (w : World) (hs : s.size ≤ 1048576) : Calls Tryz.prog 4 #[.string s] w fun e w' => IntsAns w (tripAns s.data.toList) e w' := by
  have HC := hid (fun w' => specCohnMatrix_any s w' hs)
  cases hb : isTwoW s.data.toList
  · have HA := hid (show tripAns s.data.toList = none by unfold tripAns; rw [if_neg (by simp [hb])])
    have HF := hid (fun w' => (specFactorsOf_any s w' hs).mono fun e w2 h => fac_none2 hb h)
    rw [HA.out]
    obtain ⟨o, ho⟩ : ∃ o, cohnAns s.data.toList = o := ⟨_, rfl⟩
    rw [ho] at HC
    clear hb ho
    go_enter Tryz.func4, Tryz.ntmps4
    go_wp2_with fail
    refine (HF.out _).mono ?_
    rintro e w1 ⟨rfl, hL⟩
    have HL1 := hid hL
    clear hL
    go_wp2_with fail
    refine (HC.out _).mono ?_
    rintro e w2 ⟨v, rfl, hown, hL⟩
    obtain ⟨a1, c1, rfl, _⟩ := hown.shape
    have HL2 := hid (HL1.out.trans hL)
    have HA2 := hid (Later.alloc w2 (.cells #[.slice a1 (o.getD []).length c1] 32))
    clear hL hown HL1
    go_wp2_with fail
    go_ret2
    exact ⟨_, rfl, ownNil _ _ _, HL2.out.trans HA2.out⟩
  · have HF := hid (fun w' => (specFactorsOf_any s w' hs).mono fun e w2 h => fac_some2 hb h)
    have hsl := two_split hb
    rw [← size_list] at hsl
    obtain ⟨m, hm⟩ : ∃ m, splitW s.data.toList = m := ⟨_, rfl⟩
    have HA := hid (show tripAns s.data.toList = (cohnAns s.data.toList).map fun _ => ordL (numD (s.data.toList.take m)) (numD (s.data.toList.drop m)) (numD s.data.toList) by unfold tripAns; rw [if_pos hb, hm])
    rw [hm] at HF hsl
    obtain ⟨u, hu⟩ : ∃ u : ByteArray, (⟨(s.data.toList.take m).toArray⟩ : ByteArray) = u := ⟨_, rfl⟩
    obtain ⟨v, hv⟩ : ∃ v : ByteArray, (⟨(s.data.toList.drop m).toArray⟩ : ByteArray) = v := ⟨_, rfl⟩
    have hul : u.data.toList = s.data.toList.take m := by rw [← hu]
    have hvl : v.data.toList = s.data.toList.drop m := by rw [← hv]
    have hus : u.size ≤ 1048576 := by rw [size_list, hul, List.length_take, ← size_list]; omega
    have hvs : v.size ≤ 1048576 := by rw [size_list, hvl, List.length_drop, ← size_list]; omega
    have HNU := hid (fun w' => specNumberOfWord_any u w' hus)
    have HNV := hid (fun w' => specNumberOfWord_any v w' hvs)
    rw [hul] at HNU
    rw [hvl] at HNV
    have HBX := hid (numD_le (s.data.toList.take m))
    have HBY := hid (numD_le (s.data.toList.drop m))
    have HBZ := hid (numD_le s.data.toList)
    rw [hu, hv] at HF
    have HNU2 := hid (fun w' => (HNU.out w').mono fun e w2 (h : NumAns w' (numAns (s.data.toList.take m)) e w2) => show e = .returned (.tuple #[.int .i64 (numD (s.data.toList.take m)), .bool (numAns (s.data.toList.take m)).isSome]) ∧ Later w' w2 from h)
    have HNV2 := hid (fun w' => (HNV.out w').mono fun e w2 (h : NumAns w' (numAns (s.data.toList.drop m)) e w2) => show e = .returned (.tuple #[.int .i64 (numD (s.data.toList.drop m)), .bool (numAns (s.data.toList.drop m)).isSome]) ∧ Later w' w2 from h)
    obtain ⟨x, hx⟩ : ∃ x, numD (s.data.toList.take m) = x := ⟨_, rfl⟩
    obtain ⟨y, hy⟩ : ∃ y, numD (s.data.toList.drop m) = y := ⟨_, rfl⟩
    obtain ⟨ox, hox⟩ : ∃ b, (numAns (s.data.toList.take m)).isSome = b := ⟨_, rfl⟩
    obtain ⟨oy, hoy⟩ : ∃ b, (numAns (s.data.toList.drop m)).isSome = b := ⟨_, rfl⟩
    rw [hx, hy] at HA
    rw [hx] at HBX HNU2
    rw [hy] at HBY HNV2
    rw [hox] at HNU2
    rw [hoy] at HNV2
    clear hx hy hox hoy HNU HNV hul hvl hu hv hus hvs hm hsl hb
    cases hm : cohnAns s.data.toList with
    | none =>
      have HR := hid (show tripAns s.data.toList = none by rw [HA.out, hm]; rfl)
      rw [hm] at HC
      rw [HR.out]
      clear hm
      go_enter Tryz.func4, Tryz.ntmps4
      go_wp2_with fail
      refine (HF.out _).mono ?_
      rintro e w1 ⟨rfl, hL⟩
      have HL1 := hid hL
      clear hL
      go_wp2_with fail
      refine (HC.out _).mono ?_
      rintro e w2 ⟨v, rfl, hown, hL⟩
      obtain ⟨a1, c1, rfl, _⟩ := hown.shape
      have HL2 := hid (HL1.out.trans hL)
      have HA2 := hid (Later.alloc w2 (.cells #[.slice a1 ((none : Option (List (List Int))).getD []).length c1] 32))
      clear hL hown HL1
      go_wp2_with fail
      go_ret2
      exact ⟨_, rfl, ownNil _ _ _, HL2.out.trans HA2.out⟩
    | some M =>
      have hz : numD s.data.toList = (M.getD 0 []).getD 1 0 := by unfold numD numAns; rw [hm]; rfl
      rw [hz] at HA HBZ
      have HR := hid (show tripAns s.data.toList = some (ordL x y ((M.getD 0 []).getD 1 0)) by rw [HA.out, hm]; rfl)
      have HQ := hid (cohnAns_sq _ M hm)
      rw [hm] at HC
      rw [HR.out]
      obtain ⟨z, hze⟩ : ∃ z, (M.getD 0 []).getD 1 0 = z := ⟨_, rfl⟩
      have HZE := hid hze
      rw [hze] at HBZ ⊢
      have HMS := hid (fun w' => mkSort_any x y z w' HBX.out HBY.out HBZ.out)
      clear hm hze hz
      go_enter Tryz.func4, Tryz.ntmps4
      go_wp2_with fail
      refine (HF.out _).mono ?_
      rintro e w1 ⟨rfl, hL⟩
      have HL1 := hid hL
      clear hL
      go_wp2_with fail
      refine (HC.out _).mono ?_
      rintro e w2 ⟨v2, rfl, hown, hL⟩
      obtain ⟨g, c, g', c', rfl, hu, hx⟩ := own_cell2 hown HQ.out
      simp only [Option.getD_some] at hx
      rw [HZE.out] at hx
      have hA := Later.alloc w2 (.cells #[.slice (some ⟨g, 0, none⟩) 2 c] 32)
      have cu := hA.cell hu
      have cx := hA.cell hx
      have HL2 := hid ((HL1.out.trans hL).trans hA)
      have c0 : (w2.alloc (.cells #[.slice (some ⟨g, 0, none⟩) 2 c] 32)).cell? ⟨w2.heap.size, 0, none⟩ = some (.slice (some ⟨g, 0, none⟩) 2 c) := by simp [go_sem]
      clear hL hown hu hx hA HL1
      go_wp2_with fail
      generalize w2.alloc (.cells #[.slice (some ⟨g, 0, none⟩) 2 c] 32) = w3 at cu cx HL2 c0 ⊢
      refine (HNU2.out _).mono ?_
      rintro e w4 ⟨rfl, hL⟩
      have c1 := hL.cell c0
      have cu1 := hL.cell cu
      have cx1 := hL.cell cx
      have HL4 := hid (HL2.out.trans hL)
      clear hL c0 cu cx HL2
      go_wp2_with fail
      refine (HNV2.out _).mono ?_
      rintro e w5 ⟨rfl, hL⟩
      have c2 := hL.cell c1
      have cu2 := hL.cell cu1
      have cx2 := hL.cell cx1
      have HL5 := hid (HL4.out.trans hL)
      clear hL c1 cu1 cx1 HL4
      go_wp2_with fail
      refine (HMS.out _).mono ?_
      rintro e w6 ⟨v6, rfl, ho, hL⟩
      have HO := hid (ho.wide HL5.out.size (Nat.le_refl _))
      have HL6 := hid (HL5.out.trans hL)
      clear ho hL HL5 c2 cu2 cx2
      go_wp2_with fail
      go_ret2
      exact ⟨_, rfl, HO.out, HL6.out⟩

open Go.Sort in
/-- slices.Sort at a block of three numbers. -/
theorem sortOwn3_any (b : Nat) (x y z : Int) (w : World) (hb : w.heap[b]? = some (.cells #[.int .i64 x, .int .i64 y, .int .i64 z] 3 (0, 0))) :
    Calls Tryz.prog 15 #[.slice (some ⟨b, 0, none⟩) 3 3] w fun e w' => e = .returned (.tuple #[]) ∧ w.grownBy w' (some b) ∧ OwnInts b w'.heap.size w' (.slice (some ⟨b, 0, none⟩) 3 3) (ordL x y z) := by
  have hlt : b < w.heap.size := (Array.getElem?_eq_some_iff.1 hb).1
  have hH : Holds (Value.int .i64) w b 0 [x, y, z].toArray := holds_of_blockI hb (by simp)
  refine (Any.slices_Sort_int laysLays189 b 0 3 [x, y, z] w hH hlt (by simp)).mono ?_
  rintro e w' ⟨rfl, n, os, rfl⟩
  rw [merge3]
  have ho := ownsRow_sortedI (w := w) (n := n) (os := os) (ss := [x, y, z]) (ts := ordL x y z) (cap := 3) (by simp [ordL]) (Nat.le_refl b) hb (by simp) (by unfold maxLen; omega) (by simp)
  exact ⟨rfl, grownBy_sortedI _, by simpa [ordL] using ho, fun k hk => (ho.lt k (by simpa [Value.ownBlock] using hk)).2⟩

set_option maxRecDepth 20000 in
set_option maxHeartbeats 2000000 in
theorem implTripleOfWord_any (s : ByteArray) (w : World) (hs : s.size ≤ 1048576) : Calls Tryz.prog 5 #[.string s] w fun e w' => IntsAns w (tripAns s.data.toList) e w' := by
  have HC := hid (fun w' => implNumberOfWord_any s w' hs)
  cases hm : cohnAns s.data.toList with
  | none =>
    have hn : numAns s.data.toList = none := by unfold numAns; rw [hm]; rfl
    have HR := hid (show tripAns s.data.toList = none by unfold tripAns; rw [hm]; split <;> rfl)
    rw [hn] at HC
    rw [HR.out]
    clear hm hn
    go_enter Tryz.func5, Tryz.ntmps5
    go_wp2_with fail
    refine (HC.out _).mono ?_
    rintro e w1 ⟨rfl, hL⟩
    have HL1 := hid hL
    clear hL
    go_wp2_with fail
    go_ret2
    exact ⟨_, rfl, ownNil _ _ _, HL1.out⟩
  | some M =>
    have hn : numAns s.data.toList = some (numD s.data.toList) := by unfold numD numAns; rw [hm]; rfl
    rw [hn] at HC
    cases hb : isTwoW s.data.toList
    · have HR := hid (show tripAns s.data.toList = none by unfold tripAns; rw [if_neg (by simp [hb])])
      have HF := hid (fun w' => (implFactorsOf_any s w' hs).mono fun e w2 h => fac_none2 hb h)
      rw [HR.out]
      obtain ⟨z, hz⟩ : ∃ z, numD s.data.toList = z := ⟨_, rfl⟩
      rw [hz] at HC
      clear hb hm hn hz
      go_enter Tryz.func5, Tryz.ntmps5
      go_wp2_with fail
      refine (HC.out _).mono ?_
      rintro e w1 ⟨rfl, hL⟩
      have HL1 := hid hL
      clear hL
      go_wp2_with fail
      refine (HF.out _).mono ?_
      rintro e w2 ⟨rfl, hL⟩
      have HL2 := hid (HL1.out.trans hL)
      clear hL HL1
      go_wp2_with fail
      go_ret2
      exact ⟨_, rfl, ownNil _ _ _, HL2.out⟩
    · have HF := hid (fun w' => (implFactorsOf_any s w' hs).mono fun e w2 h => fac_some2 hb h)
      have hsl := two_split hb
      rw [← size_list] at hsl
      obtain ⟨m, hsp⟩ : ∃ m, splitW s.data.toList = m := ⟨_, rfl⟩
      have HR := hid (show tripAns s.data.toList = some (ordL (numD (s.data.toList.take m)) (numD (s.data.toList.drop m)) (numD s.data.toList)) by unfold tripAns; rw [if_pos hb, hm, hsp]; rfl)
      rw [hsp] at HF hsl
      rw [HR.out]
      obtain ⟨u, hu⟩ : ∃ u : ByteArray, (⟨(s.data.toList.take m).toArray⟩ : ByteArray) = u := ⟨_, rfl⟩
      obtain ⟨v, hv⟩ : ∃ v : ByteArray, (⟨(s.data.toList.drop m).toArray⟩ : ByteArray) = v := ⟨_, rfl⟩
      have hul : u.data.toList = s.data.toList.take m := by rw [← hu]
      have hvl : v.data.toList = s.data.toList.drop m := by rw [← hv]
      have hus : u.size ≤ 1048576 := by rw [size_list, hul, List.length_take, ← size_list]; omega
      have hvs : v.size ≤ 1048576 := by rw [size_list, hvl, List.length_drop, ← size_list]; omega
      have HNU := hid (fun w' => implNumberOfWord_any u w' hus)
      have HNV := hid (fun w' => implNumberOfWord_any v w' hvs)
      rw [hul] at HNU
      rw [hvl] at HNV
      rw [hu, hv] at HF
      have HNU2 := hid (fun w' => (HNU.out w').mono fun e w2 (h : NumAns w' (numAns (s.data.toList.take m)) e w2) => show e = .returned (.tuple #[.int .i64 (numD (s.data.toList.take m)), .bool (numAns (s.data.toList.take m)).isSome]) ∧ Later w' w2 from h)
      have HNV2 := hid (fun w' => (HNV.out w').mono fun e w2 (h : NumAns w' (numAns (s.data.toList.drop m)) e w2) => show e = .returned (.tuple #[.int .i64 (numD (s.data.toList.drop m)), .bool (numAns (s.data.toList.drop m)).isSome]) ∧ Later w' w2 from h)
      obtain ⟨x, hx⟩ : ∃ x, numD (s.data.toList.take m) = x := ⟨_, rfl⟩
      obtain ⟨y, hy⟩ : ∃ y, numD (s.data.toList.drop m) = y := ⟨_, rfl⟩
      obtain ⟨z, hz⟩ : ∃ z, numD s.data.toList = z := ⟨_, rfl⟩
      obtain ⟨ox, hox⟩ : ∃ b, (numAns (s.data.toList.take m)).isSome = b := ⟨_, rfl⟩
      obtain ⟨oy, hoy⟩ : ∃ b, (numAns (s.data.toList.drop m)).isSome = b := ⟨_, rfl⟩
      rw [hx] at HNU2
      rw [hy] at HNV2
      rw [hz] at HC
      rw [hx, hy, hz]
      rw [hox] at HNU2
      rw [hoy] at HNV2
      clear hx hy hz hox hoy HNU HNV hul hvl hu hv hus hvs hm hsl hb hsp hn HR
      go_enter Tryz.func5, Tryz.ntmps5
      go_wp2_with fail
      refine (HC.out _).mono ?_
      rintro e w1 ⟨rfl, hL⟩
      have HL1 := hid hL
      clear hL
      go_wp2_with fail
      refine (HF.out _).mono ?_
      rintro e w2 ⟨rfl, hL⟩
      have HL2 := hid (HL1.out.trans hL)
      clear hL HL1
      go_wp2_with fail
      refine (HNU2.out _).mono ?_
      rintro e w3 ⟨rfl, hL⟩
      have HL3 := hid (HL2.out.trans hL)
      clear hL HL2
      go_wp2_with fail
      refine (HNV2.out _).mono ?_
      rintro e w4 ⟨rfl, hL⟩
      have HL4 := hid (HL3.out.trans hL)
      clear hL HL3
      have hbk : (w4.alloc (.cells #[.int .i64 x, .int .i64 y, .int .i64 z] 3)).heap[w4.heap.size]? = some (.cells #[.int .i64 x, .int .i64 y, .int .i64 z] 3 (0, 0)) := by
        show (w4.heap.push _)[w4.heap.size]? = _
        simp
      have HBK := hid hbk
      have HL5 := hid (HL4.out.trans (Later.alloc w4 (.cells #[.int .i64 x, .int .i64 y, .int .i64 z] 3)))
      have HS4 := hid HL4.out.size
      clear hbk
      go_wp2_with fail
      generalize w4.alloc (.cells #[.int .i64 x, .int .i64 y, .int .i64 z] 3) = w5 at HBK HL5 ⊢
      refine (sortOwn3_any _ x y z _ HBK.out).mono ?_
      rintro e w6 ⟨rfl, hg, ho⟩
      have HL6 := hid (show Later w w6 from HL5.out.grown hg HL5.out.size (fun k hk => by cases hk; exact HS4.out))
      have HO := hid (ho.wide HS4.out (Nat.le_refl _))
      clear hg ho HL5
      go_wp2_with fail
      go_ret2
      exact ⟨_, rfl, HO.out, HL6.out⟩


set_option maxRecDepth 20000 in
set_option maxHeartbeats 4000000 in
theorem lawTripleOfWord_gen (s0 : ByteArray) (o : Option (List Int)) (hob : (o.getD []).length ≤ 1000000000000)
    (hS : ∀ (w : World), s0.size ≤ 1048576 → Calls Tryz.prog 4 #[.string s0] w fun e w' => IntsAns w o e w')
    (hI : ∀ (w : World), s0.size ≤ 1048576 → Calls Tryz.prog 5 #[.string s0] w fun e w' => IntsAns w o e w')
    (w : World) :
    Calls Tryz.prog 3 #[.string s0] w fun e w' => e = .returned (.bool true) ∧ Later w w' := by
  have HS := hid hS
  have HI := hid hI
  clear hS hI
  by_cases hz0 : s0.size ≤ 1048576
  · have hq0 : ¬ (1048576 : Int) < (s0.size : Int) := by omega
    have HN0 := hid hz0
    go_enter Tryz.func3, Tryz.ntmps3
    go_wp2_with fail
    refine (HS.out _ HN0.out).mono ?_
    rintro e w1 ⟨y1, rfl, hown, hL⟩
    obtain ⟨a1, cap1, rfl, _⟩ := hown.shape
    have O1 := hid hown
    have L1 := hid hL
    have S1 := hid hL.size
    clear hown hL
    go_wp2_with fail
    refine (HI.out _ HN0.out).mono ?_
    rintro e w2 ⟨y2, rfl, hown, hL⟩
    obtain ⟨a2, cap2, rfl, _⟩ := hown.shape
    have O2 := hid hown
    have O3 := hid (O1.out.later hL)
    have L2 := hid (L1.out.trans hL)
    have S2 := hid hL.size
    clear hown hL O1 L1
    have hne0 : ((o.isSome) != (o.isSome)) = false := by simp
    go_wp2_with fail
    refine (eqIntS_any _ _ _ _ _ O2.out.ints O3.out.ints).mono ?_
    rintro e w3 ⟨rfl, hD⟩
    have hL := hD.later
    clear hD
    rw [eqL_self]
    have O4 := hid (O2.out.later hL)
    have O5 := hid (O3.out.later hL)
    have L3 := hid (L2.out.trans hL)
    have S3 := hid hL.size
    clear hL O2 O3 L2
    go_wp2_with fail
    refine (markIntS_any w1.heap.size w2.heap.size _ _ _ _ ⟨by omega, by omega⟩ O4.out).mono ?_
    rintro e w4 ⟨rfl, hown, hT⟩
    have O6 := hid hown
    have O7 := hid (O5.out.keep fun b h1 h2 => hT.block b (fun hb => by have := O4.out.blk hb; omega))
    have L4 := hid (show Later w w4 from Wrote.below L3.out hT (fun b hb => by have := O4.out.blk hb; have := S1.out; omega))
    clear hown hT O4 O5 L3
    have hmm : (((1 : Int) + ((o.getD []).length : Int)) != ((1 : Int) + ((o.getD []).length : Int))) = false := by simp
    have hmn : ¬ (1 : Int) + ((o.getD []).length : Int) < 0 := by omega
    go_wp2_with fail
    refine (heldIntS_any _ (o.getD []).length _ _ ⟨by omega, by omega⟩ O6.out.ints).mono ?_
    rintro e w5 ⟨rfl, rfl⟩
    have hL := Later.refl w4
    have O8 := hid (O6.out.later hL)
    have O9 := hid (O7.out.later hL)
    have L5 := hid (L4.out.trans hL)
    clear hL O6 O7 L4
    go_wp2_with fail
    refine (HI.out _ HN0.out).mono ?_
    rintro e w6 ⟨y6, rfl, hown, hL⟩
    obtain ⟨a6, cap6, rfl, _⟩ := hown.shape
    have OA := hid hown
    have OB := hid (O8.out.later hL)
    have OC := hid (O9.out.later hL)
    have L6 := hid (L5.out.trans hL)
    clear hown hL O8 O9 L5
    go_wp2_with fail
    refine (eqIntS_any _ _ _ _ _ OA.out.ints OC.out.ints).mono ?_
    rintro e w7 ⟨rfl, hD⟩
    have hL := hD.later
    clear hD
    rw [eqL_self]
    have OD := hid (OB.out.later hL)
    have L7 := hid (L6.out.trans hL)
    clear hL OA OB OC L6
    go_wp2_with fail
    refine (heldIntS_any _ (o.getD []).length _ _ ⟨by omega, by omega⟩ OD.out.ints).mono ?_
    rintro e w8 ⟨rfl, rfl⟩
    have hL := Later.refl w7
    have L8 := hid (L7.out.trans hL)
    clear hL OD L7
    go_wp2_with fail
    go_ret
    exact ⟨rfl, L8.out⟩
  · have hq0 : (1048576 : Int) < (s0.size : Int) := by omega
    go_enter Tryz.func3, Tryz.ntmps3
    go_wp2_with fail
    go_ret
    exact ⟨rfl, Later.refl w⟩
end Go.Proofs.YtmmapfdmdliifaaGreatDoor
