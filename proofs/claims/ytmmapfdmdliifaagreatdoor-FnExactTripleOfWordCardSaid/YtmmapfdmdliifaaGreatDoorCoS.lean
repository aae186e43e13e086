/- The Cohn matrix, in the model. -/
import Derived.Test.YtmmapfdmdliifaaGreatDoorWdS
import Derived.Test.YtmmapfdmdliifaaGreatDoorMulS
import Derived.Test.YtmmapfdmdliifaaGreatDoorUnit2
namespace Go.Proofs.YtmmapfdmdliifaaGreatDoor
open Go.RowKit

def genM (c : UInt8) : List (List Int) := if c = 98 then [[5, 2], [2, 1]] else [[2, 1], [1, 1]]
theorem genM_sq (c : UInt8) : Sq 2 (genM c) := by
  unfold genM
  split <;> refine ⟨rfl, fun i hi => ?_⟩ <;> (match i, hi with | 0, _ => rfl | 1, _ => rfl)
def cohnF : List UInt8 → List (List Int) → Option (List (List Int))
  | [], P => some P
  | c :: r, P => if goodM 1000000 (mulM 2 P (genM c)) = true then cohnF r (mulM 2 P (genM c)) else none
def cohnAns (l : List UInt8) : Option (List (List Int)) := if lettersW l = true then cohnF l (unitM 2) else none
theorem cohnF_sq : ∀ (l : List UInt8) (P M : List (List Int)), Sq 2 P → cohnF l P = some M → Sq 2 M
  | [], P, M, h, e => by simp [cohnF] at e; subst e; exact h
  | c :: r, P, M, _, e => by
    unfold cohnF at e
    split at e
    · exact cohnF_sq r _ M (Sq.mk' 2 _) e
    · cases e
theorem cohnF_drop (l : List UInt8) (k : Nat) (c : UInt8) (P : List (List Int)) (h : l[k]? = some c) : cohnF (l.drop k) P = if goodM 1000000 (mulM 2 P (genM c)) = true then cohnF (l.drop (k + 1)) (mulM 2 P (genM c)) else none := by
  have hk : k < l.length := (List.getElem?_eq_some_iff.1 h).1
  have hc : l[k] = c := by rw [List.getElem?_eq_getElem hk] at h; simpa using h
  rw [List.drop_eq_getElem_cons hk, hc]
  rfl
theorem off_sq2 (M : List (List Int)) (h : Sq 2 M) : off M M.length ≤ 4 := by
  have h1 := off_bound M 2 M.length (fun i hi => by rw [h.1] at hi; rw [h.2 i hi]; exact Nat.le_refl _) (Nat.le_refl _)
  rw [h.1] at h1 ⊢
  exact h1
theorem cohnAns_off (l : List UInt8) : off ((cohnAns l).getD []) ((cohnAns l).getD []).length ≤ 1000000000000 := by
  unfold cohnAns
  split
  · cases h : cohnF l (unitM 2) with
    | none => simp [off]
    | some M => have := off_sq2 M (cohnF_sq l _ M (Sq.mk' 2 _) h); simp only [Option.getD_some]; omega
  · simp [off]
theorem rows_lit2 (W : World) (b1 b2 b3 : Nat) (p q r s : Int) (h1 : W.cell? ⟨b1, 0, none⟩ = some (.int .i64 p)) (h2 : W.cell? ⟨b1, 1, none⟩ = some (.int .i64 q)) (h3 : W.cell? ⟨b2, 0, none⟩ = some (.int .i64 r)) (h4 : W.cell? ⟨b2, 1, none⟩ = some (.int .i64 s))
    (h5 : W.cell? ⟨b3, 0, none⟩ = some (.slice (some ⟨b1, 0, none⟩) 2 2)) (h6 : W.cell? ⟨b3, 1, none⟩ = some (.slice (some ⟨b2, 0, none⟩) 2 2)) :
    Rows2 W (.slice (some ⟨b3, 0, none⟩) 2 2) [[p, q], [r, s]] := by
  refine ⟨_, 2, rfl, by simp, fun i hi => ?_⟩
  match i, hi with
  | 0, _ =>
    refine ⟨_, _, rfl, by rw [addr_add0]; exact h5, _, 2, rfl, by simp, fun j hj => ?_⟩
    match j, hj with
    | 0, _ => exact ⟨_, rfl, by rw [addr_add0]; exact h1⟩
    | 1, _ => exact ⟨_, rfl, by rw [addr_add0]; exact h2⟩
  | 1, _ =>
    refine ⟨_, _, rfl, by rw [addr_add0]; exact h6, _, 2, rfl, by simp, fun j hj => ?_⟩
    match j, hj with
    | 0, _ => exact ⟨_, rfl, by rw [addr_add0]; exact h3⟩
    | 1, _ => exact ⟨_, rfl, by rw [addr_add0]; exact h4⟩

set_option maxRecDepth 20000 in
set_option maxHeartbeats 4000000 in
theorem chMatrix_any (s : ByteArray) (w : World) (hs : s.size ≤ 40) : Calls Tryz.prog 19 #[.string s] w fun e w' => MatAns w (cohnF s.data.toList (unitM 2)) e w' := by
  have HD := hid (fun k (hk : k < s.size) P => cohnF_drop s.data.toList k (s[k]'hk) P (byte_at s k hk))
  have HE := hid (fun P => show cohnF (s.data.toList.drop s.size) P = some P by rw [List.drop_of_length_le (by rw [← size_list]; exact Nat.le_refl _)]; rfl)
  obtain ⟨R, hR⟩ : ∃ R, cohnF s.data.toList (unitM 2) = R := ⟨_, rfl⟩
  have HR0 := hid (show cohnF (s.data.toList.drop 0) (unitM 2) = R by simpa using hR)
  rw [hR]
  clear hR
  have hb0 : Box (w.alloc (Obj.cells #[Value.slice none 0 0] 32)) w.heap.size (.slice none 0 0) := ⟨by simp [go_sem], by simp [go_sem]⟩
  have HL0 := hid (Later.alloc w (Obj.cells #[Value.slice none 0 0] 32))
  go_enter Tryz.func19, Tryz.ntmps19
  go_wp2_with fail
  refine (foUnit_any 2 _ (by omega)).mono ?_
  rintro e w1 ⟨v1, rfl, ho1, hL1⟩
  have HB2 := hid ((hb0.later hL1).later (Later.alloc w1 (.cells #[v1] 32)))
  have HL1 := hid ((HL0.out.trans hL1).trans (Later.alloc w1 (.cells #[v1] 32)))
  have HO := hid (((ho1.wide (show w.heap.size + 1 ≤ _ by simp) (Nat.le_refl _)).later (Later.alloc w1 (.cells #[v1] 32))).wide (Nat.le_refl _) (show w1.heap.size ≤ (w1.alloc (.cells #[v1] 32)).heap.size by simp))
  have hbx : Box (w1.alloc (.cells #[v1] 32)) w1.heap.size v1 := ⟨by simp [go_sem], by simp [go_sem]⟩
  have HBX := hid hbx
  have HSZ := hid (show w.heap.size < w1.heap.size by have := hL1.size; simp at this; omega)
  obtain ⟨a1, c1, rfl, _⟩ := ho1.shape
  clear hb0 hL1 ho1 hbx HL0
  go_wp2_with fail
  generalize w1.alloc (.cells #[Value.slice a1 (unitM 2).length c1] 32) = w2 at HB2 HL1 HO HBX ⊢
  generalize w1.heap.size = B at HBX HSZ ⊢
  generalize (Value.slice a1 (unitM 2).length c1) = v1 at HB2 HL1 HO HBX ⊢
  go_loopw [5] (fun i wr => ∃ (k : Nat) (P : List (List Int)) (v : Value), k ≤ s.size ∧ i = .int .i64 k ∧ Sq 2 P ∧ Box wr w.heap.size (.slice none 0 0) ∧ Box wr B v ∧ OwnRows (w.heap.size + 1) wr.heap.size wr v P ∧ cohnF (s.data.toList.drop k) P = R ∧ Later w wr) (fun i _ => s.size - (intOf i).toNat)
  case atStart => exact ⟨0, unitM 2, v1, Nat.zero_le _, rfl, Sq.mk' 2 _, HB2.out, HBX.out, HO.out, HR0.out, HL1.out⟩
  case round =>
    clear HB2 HBX HO HR0 HL1
    obtain ⟨k, P, v, hk, rfl, hsq, hb2, hbx, ho, hP, hL⟩ := hrel
    have HSQ := hid hsq
    have HB2 := hid hb2
    have HBX := hid hbx
    have HO := hid ho
    have HP := hid hP
    have HLr := hid hL
    obtain ⟨c2, f2⟩ := hb2
    obtain ⟨cx, fx⟩ := hbx
    clear hsq ho hP hL
    by_cases hlt : k < s.size
    · have hltI : (k : Int) < (s.size : Int) := by omega
      have HDk := hid ((HD.out k hlt P).symm.trans HP.out)
      have hBw := hid (Box.lt HBX.out)
      by_cases h98 : (s[k]'hlt) = 98
      · have hn : (s[k]'hlt).toNat = 98 := by rw [h98]; rfl
        rw [h98] at HDk
        clear h98
        have HLW := hid (show Later wr (((((((wr.alloc (.cells #[Value.int .i64 2, Value.int .i64 1] 3)).alloc (.cells #[Value.int .i64 1, Value.int .i64 1] 3)).alloc (.cells #[.slice (some ⟨wr.heap.size, 0, none⟩) 2 2, .slice (some ⟨wr.heap.size + 1, 0, none⟩) 2 2] 22)).alloc (.cells #[.slice (some ⟨wr.heap.size + 1 + 1 + 1 + 1 + 1 + 1, 0, none⟩) 2 2] 32)).alloc (.cells #[Value.int .i64 5, Value.int .i64 2] 3)).alloc (.cells #[Value.int .i64 2, Value.int .i64 1] 3)).alloc (.cells #[.slice (some ⟨wr.heap.size + 1 + 1 + 1 + 1, 0, none⟩) 2 2, .slice (some ⟨wr.heap.size + 1 + 1 + 1 + 1 + 1, 0, none⟩) 2 2] 22)) from (((((((Later.alloc wr _).trans (Later.alloc _ _)).trans (Later.alloc _ _)).trans (Later.alloc _ _)).trans (Later.alloc _ _)).trans (Later.alloc _ _)).trans (Later.alloc _ _)))
        have cB := HLW.out.cell cx
        have c6 : ((((((((wr.alloc (.cells #[Value.int .i64 2, Value.int .i64 1] 3)).alloc (.cells #[Value.int .i64 1, Value.int .i64 1] 3)).alloc (.cells #[.slice (some ⟨wr.heap.size, 0, none⟩) 2 2, .slice (some ⟨wr.heap.size + 1, 0, none⟩) 2 2] 22)).alloc (.cells #[.slice (some ⟨wr.heap.size + 1 + 1 + 1 + 1 + 1 + 1, 0, none⟩) 2 2] 32)).alloc (.cells #[Value.int .i64 5, Value.int .i64 2] 3)).alloc (.cells #[Value.int .i64 2, Value.int .i64 1] 3)).alloc (.cells #[.slice (some ⟨wr.heap.size + 1 + 1 + 1 + 1, 0, none⟩) 2 2, .slice (some ⟨wr.heap.size + 1 + 1 + 1 + 1 + 1, 0, none⟩) 2 2] 22))).cell? ⟨wr.heap.size + 1 + 1 + 1, 0, none⟩ = some (.slice (some ⟨wr.heap.size + 1 + 1 + 1 + 1 + 1 + 1, 0, none⟩) 2 2) := by simp [go_sem]
        have HR6 := hid (rows_lit2 (((((((wr.alloc (.cells #[Value.int .i64 2, Value.int .i64 1] 3)).alloc (.cells #[Value.int .i64 1, Value.int .i64 1] 3)).alloc (.cells #[.slice (some ⟨wr.heap.size, 0, none⟩) 2 2, .slice (some ⟨wr.heap.size + 1, 0, none⟩) 2 2] 22)).alloc (.cells #[.slice (some ⟨wr.heap.size + 1 + 1 + 1 + 1 + 1 + 1, 0, none⟩) 2 2] 32)).alloc (.cells #[Value.int .i64 5, Value.int .i64 2] 3)).alloc (.cells #[Value.int .i64 2, Value.int .i64 1] 3)).alloc (.cells #[.slice (some ⟨wr.heap.size + 1 + 1 + 1 + 1, 0, none⟩) 2 2, .slice (some ⟨wr.heap.size + 1 + 1 + 1 + 1 + 1, 0, none⟩) 2 2] 22)) (wr.heap.size + 1 + 1 + 1 + 1) (wr.heap.size + 1 + 1 + 1 + 1 + 1) (wr.heap.size + 1 + 1 + 1 + 1 + 1 + 1) 5 2 2 1 (by simp [go_sem]) (by simp [go_sem]) (by simp [go_sem]) (by simp [go_sem]) (by simp [go_sem]) (by simp [go_sem]))
        have HBW := hid (show B < ((((((((wr.alloc (.cells #[Value.int .i64 2, Value.int .i64 1] 3)).alloc (.cells #[Value.int .i64 1, Value.int .i64 1] 3)).alloc (.cells #[.slice (some ⟨wr.heap.size, 0, none⟩) 2 2, .slice (some ⟨wr.heap.size + 1, 0, none⟩) 2 2] 22)).alloc (.cells #[.slice (some ⟨wr.heap.size + 1 + 1 + 1 + 1 + 1 + 1, 0, none⟩) 2 2] 32)).alloc (.cells #[Value.int .i64 5, Value.int .i64 2] 3)).alloc (.cells #[Value.int .i64 2, Value.int .i64 1] 3)).alloc (.cells #[.slice (some ⟨wr.heap.size + 1 + 1 + 1 + 1, 0, none⟩) 2 2, .slice (some ⟨wr.heap.size + 1 + 1 + 1 + 1 + 1, 0, none⟩) 2 2] 22))).heap.size by have := HLW.out.size; have := hBw.out; omega)
        go_wp2_with fail
        generalize (((((((wr.alloc (.cells #[Value.int .i64 2, Value.int .i64 1] 3)).alloc (.cells #[Value.int .i64 1, Value.int .i64 1] 3)).alloc (.cells #[.slice (some ⟨wr.heap.size, 0, none⟩) 2 2, .slice (some ⟨wr.heap.size + 1, 0, none⟩) 2 2] 22)).alloc (.cells #[.slice (some ⟨wr.heap.size + 1 + 1 + 1 + 1 + 1 + 1, 0, none⟩) 2 2] 32)).alloc (.cells #[Value.int .i64 5, Value.int .i64 2] 3)).alloc (.cells #[Value.int .i64 2, Value.int .i64 1] 3)).alloc (.cells #[.slice (some ⟨wr.heap.size + 1 + 1 + 1 + 1, 0, none⟩) 2 2, .slice (some ⟨wr.heap.size + 1 + 1 + 1 + 1 + 1, 0, none⟩) 2 2] 22)) = wa at HLW cB c6 HR6 HBW ⊢
        refine (foTimes_any 2 P (genM 98) HSQ.out (genM_sq 98) _ _ _ (by omega) (HO.out.rows.later HLW.out) HR6.out).mono ?_
        rintro e w3 ⟨v3, rfl, ho3, hL3⟩
        have HO3 := hid ho3
        have HL3 := hid (HLW.out.trans hL3)
        have HS3 := hid hL3.size
        obtain ⟨a3, c3, rfl, _⟩ := ho3.shape
        obtain ⟨cx3, fx3⟩ := HBX.out.later HL3.out
        obtain ⟨c23, f23⟩ := HB2.out.later HL3.out
        clear ho3 hL3 cx fx c2 f2 cB c6
        obtain ⟨MM, hMM⟩ : ∃ MM, mulM 2 P (genM 98) = MM := ⟨_, rfl⟩
        have HSM := hid (show Sq 2 MM by rw [← hMM]; exact Sq.mk' 2 _)
        rw [hMM] at HO3 HDk ⊢
        clear hMM
        go_wp2_with fail
        have HO4 := hid (HO3.out.setCell (a := ⟨B, 0, none⟩) HBW.out (.slice a3 MM.length c3))
        have HB4 := hid ((show Box w3 B v from ⟨cx3, fx3⟩).set (.slice a3 MM.length c3))
        have HB24 := hid ((show Box w3 w.heap.size (.slice none 0 0) from ⟨c23, f23⟩).other (a := ⟨B, 0, none⟩) (by simp; have := HSZ.out; omega) (.slice a3 MM.length c3))
        have HL4 := hid (show Later w (w3.setCell ⟨B, 0, none⟩ (.slice a3 MM.length c3)) from (HLr.out.trans HL3.out).setCell (p := ⟨B, 0, none⟩) (by simp; have := HSZ.out; omega) (.slice a3 MM.length c3))
        have hs4 := hid (show (w3.setCell ⟨B, 0, none⟩ (.slice a3 MM.length c3)).heap.size = w3.heap.size by simp [World.setCell])
        generalize w3.setCell ⟨B, 0, none⟩ (.slice a3 MM.length c3) = w4 at HO4 HB4 HB24 HL4 hs4 ⊢
        obtain ⟨cx4, _⟩ := HB4.out
        refine (foGood_any _ MM _ HO4.out.rows).mono ?_
        rintro e w5 ⟨rfl, hL5⟩
        have HO5 := hid ((HO4.out.later hL5).wide (show w.heap.size + 1 ≤ wa.heap.size by have := HBW.out; have := HSZ.out; omega) (show w3.heap.size ≤ w5.heap.size by have := hL5.size; have := hs4.out; omega))
        have HB5 := hid (HB4.out.later hL5)
        have HB25 := hid (HB24.out.later hL5)
        have HL5 := hid (HL4.out.trans hL5)
        obtain ⟨c25, f25⟩ := HB25.out
        clear hL5 cx3 fx3 c23 f23 cx4
        cases hg : goodM 1000000 MM
        · have HRN := hid (show R = none by rw [← HDk.out, if_neg (by simp [hg])])
          clear hg
          go_wp2_with fail
          refine bodyPost_ret (v := .tuple #[.agg #[.slice none 0 0], .bool false]) (by simp [results, Tryz.results19, go_sem, c25]) rfl ⟨_, by rw [HRN.out]; rfl, by rw [HRN.out]; exact OwnRows.empty _ _ _, HL5.out.setCell (by simp) _⟩
        · have HRS := hid (HDk.out.symm.trans (if_pos hg))
          clear hg
          go_wp2_with fail
          go_roundw
          case rel => exact ⟨k + 1, MM, _, hlt, by go_num, HSM.out, HB25.out, HB5.out, HO5.out, HRS.out.symm, HL5.out⟩
          case measure => simp [intOf]; omega
      · have e98 := u8_iff (s[k]'hlt) 98 (by decide)
        have hb98 : (((s[k]'hlt).toNat : Int) == 98) = false := by rw [show ((98 : Int)) = ((98 : Nat) : Int) from rfl, e98]; simp; exact h98
        have hg : genM (s[k]'hlt) = genM 97 := by unfold genM; rw [if_neg h98, if_neg (by decide)]
        rw [hg] at HDk
        clear e98 h98 hg
        have HLW := hid (show Later wr ((((wr.alloc (.cells #[Value.int .i64 2, Value.int .i64 1] 3)).alloc (.cells #[Value.int .i64 1, Value.int .i64 1] 3)).alloc (.cells #[.slice (some ⟨wr.heap.size, 0, none⟩) 2 2, .slice (some ⟨wr.heap.size + 1, 0, none⟩) 2 2] 22)).alloc (.cells #[.slice (some ⟨wr.heap.size + 1 + 1, 0, none⟩) 2 2] 32)) from ((((Later.alloc wr _).trans (Later.alloc _ _)).trans (Later.alloc _ _)).trans (Later.alloc _ _)))
        have cB := HLW.out.cell cx
        have c6 : (((((wr.alloc (.cells #[Value.int .i64 2, Value.int .i64 1] 3)).alloc (.cells #[Value.int .i64 1, Value.int .i64 1] 3)).alloc (.cells #[.slice (some ⟨wr.heap.size, 0, none⟩) 2 2, .slice (some ⟨wr.heap.size + 1, 0, none⟩) 2 2] 22)).alloc (.cells #[.slice (some ⟨wr.heap.size + 1 + 1, 0, none⟩) 2 2] 32))).cell? ⟨wr.heap.size + 1 + 1 + 1, 0, none⟩ = some (.slice (some ⟨wr.heap.size + 1 + 1, 0, none⟩) 2 2) := by simp [go_sem]
        have HR6 := hid (rows_lit2 ((((wr.alloc (.cells #[Value.int .i64 2, Value.int .i64 1] 3)).alloc (.cells #[Value.int .i64 1, Value.int .i64 1] 3)).alloc (.cells #[.slice (some ⟨wr.heap.size, 0, none⟩) 2 2, .slice (some ⟨wr.heap.size + 1, 0, none⟩) 2 2] 22)).alloc (.cells #[.slice (some ⟨wr.heap.size + 1 + 1, 0, none⟩) 2 2] 32)) (wr.heap.size) (wr.heap.size + 1) (wr.heap.size + 1 + 1) 2 1 1 1 (by simp [go_sem]) (by simp [go_sem]) (by simp [go_sem]) (by simp [go_sem]) (by simp [go_sem]) (by simp [go_sem]))
        have HBW := hid (show B < (((((wr.alloc (.cells #[Value.int .i64 2, Value.int .i64 1] 3)).alloc (.cells #[Value.int .i64 1, Value.int .i64 1] 3)).alloc (.cells #[.slice (some ⟨wr.heap.size, 0, none⟩) 2 2, .slice (some ⟨wr.heap.size + 1, 0, none⟩) 2 2] 22)).alloc (.cells #[.slice (some ⟨wr.heap.size + 1 + 1, 0, none⟩) 2 2] 32))).heap.size by have := HLW.out.size; have := hBw.out; omega)
        go_wp2_with fail
        generalize ((((wr.alloc (.cells #[Value.int .i64 2, Value.int .i64 1] 3)).alloc (.cells #[Value.int .i64 1, Value.int .i64 1] 3)).alloc (.cells #[.slice (some ⟨wr.heap.size, 0, none⟩) 2 2, .slice (some ⟨wr.heap.size + 1, 0, none⟩) 2 2] 22)).alloc (.cells #[.slice (some ⟨wr.heap.size + 1 + 1, 0, none⟩) 2 2] 32)) = wa at HLW cB c6 HR6 HBW ⊢
        refine (foTimes_any 2 P (genM 97) HSQ.out (genM_sq 97) _ _ _ (by omega) (HO.out.rows.later HLW.out) HR6.out).mono ?_
        rintro e w3 ⟨v3, rfl, ho3, hL3⟩
        have HO3 := hid ho3
        have HL3 := hid (HLW.out.trans hL3)
        have HS3 := hid hL3.size
        obtain ⟨a3, c3, rfl, _⟩ := ho3.shape
        obtain ⟨cx3, fx3⟩ := HBX.out.later HL3.out
        obtain ⟨c23, f23⟩ := HB2.out.later HL3.out
        clear ho3 hL3 cx fx c2 f2 cB c6
        obtain ⟨MM, hMM⟩ : ∃ MM, mulM 2 P (genM 97) = MM := ⟨_, rfl⟩
        have HSM := hid (show Sq 2 MM by rw [← hMM]; exact Sq.mk' 2 _)
        rw [hMM] at HO3 HDk ⊢
        clear hMM
        go_wp2_with fail
        have HO4 := hid (HO3.out.setCell (a := ⟨B, 0, none⟩) HBW.out (.slice a3 MM.length c3))
        have HB4 := hid ((show Box w3 B v from ⟨cx3, fx3⟩).set (.slice a3 MM.length c3))
        have HB24 := hid ((show Box w3 w.heap.size (.slice none 0 0) from ⟨c23, f23⟩).other (a := ⟨B, 0, none⟩) (by simp; have := HSZ.out; omega) (.slice a3 MM.length c3))
        have HL4 := hid (show Later w (w3.setCell ⟨B, 0, none⟩ (.slice a3 MM.length c3)) from (HLr.out.trans HL3.out).setCell (p := ⟨B, 0, none⟩) (by simp; have := HSZ.out; omega) (.slice a3 MM.length c3))
        have hs4 := hid (show (w3.setCell ⟨B, 0, none⟩ (.slice a3 MM.length c3)).heap.size = w3.heap.size by simp [World.setCell])
        generalize w3.setCell ⟨B, 0, none⟩ (.slice a3 MM.length c3) = w4 at HO4 HB4 HB24 HL4 hs4 ⊢
        obtain ⟨cx4, _⟩ := HB4.out
        refine (foGood_any _ MM _ HO4.out.rows).mono ?_
        rintro e w5 ⟨rfl, hL5⟩
        have HO5 := hid ((HO4.out.later hL5).wide (show w.heap.size + 1 ≤ wa.heap.size by have := HBW.out; have := HSZ.out; omega) (show w3.heap.size ≤ w5.heap.size by have := hL5.size; have := hs4.out; omega))
        have HB5 := hid (HB4.out.later hL5)
        have HB25 := hid (HB24.out.later hL5)
        have HL5 := hid (HL4.out.trans hL5)
        obtain ⟨c25, f25⟩ := HB25.out
        clear hL5 cx3 fx3 c23 f23 cx4
        cases hg : goodM 1000000 MM
        · have HRN := hid (show R = none by rw [← HDk.out, if_neg (by simp [hg])])
          clear hg
          go_wp2_with fail
          refine bodyPost_ret (v := .tuple #[.agg #[.slice none 0 0], .bool false]) (by simp [results, Tryz.results19, go_sem, c25]) rfl ⟨_, by rw [HRN.out]; rfl, by rw [HRN.out]; exact OwnRows.empty _ _ _, HL5.out.setCell (by simp) _⟩
        · have HRS := hid (HDk.out.symm.trans (if_pos hg))
          clear hg
          go_wp2_with fail
          go_roundw
          case rel => exact ⟨k + 1, MM, _, hlt, by go_num, HSM.out, HB25.out, HB5.out, HO5.out, HRS.out.symm, HL5.out⟩
          case measure => simp [intOf]; omega
    · have hke : k = s.size := by omega
      subst hke
      have HRS := hid (HP.out.symm.trans (HE.out P))
      obtain ⟨a9, c9, rfl, _⟩ := HO.out.shape
      go_wp2_with fail
      refine bodyPost_ret (v := .tuple #[.agg #[.slice a9 P.length c9], .bool true]) (by simp [results, Tryz.results19, go_sem, c2]) rfl ⟨_, by rw [HRS.out]; rfl, ?_, HLr.out.setCell (by simp) _⟩
      rw [HRS.out]
      exact (HO.out.setCell (a := ⟨w.heap.size, 0, none⟩) (by simp) _).wide (by omega) (by simp [World.setCell])

theorem MatAns.nothing {w w' : World} {e : Ending} (he : e = .returned (.tuple #[.agg #[.slice none 0 0], .bool false])) (hL : Later w w') : MatAns w none e w' :=
  ⟨_, he, OwnRows.empty _ _ _, hL⟩
set_option maxRecDepth 20000 in
set_option maxHeartbeats 2000000 in
theorem specCohnMatrix_any (s : ByteArray) (w : World) (_hs : s.size ≤ 1048576) : Calls Tryz.prog 10 #[.string s] w fun e w' => MatAns w (cohnAns s.data.toList) e w' := by
  have hb0 : Box (w.alloc (Obj.cells #[Value.slice none 0 0] 32)) w.heap.size (.slice none 0 0) := ⟨by simp [go_sem], by simp [go_sem]⟩
  have HB0 := hid hb0
  have HL0 := hid (Later.alloc w (Obj.cells #[Value.slice none 0 0] 32))
  have HC := hid (fun b w hb => chLetters_as s b w hb)
  cases hb : lettersW s.data.toList
  · have HA := hid (show cohnAns s.data.toList = none by unfold cohnAns; rw [if_neg (by simp [hb])])
    have HB := hid hb
    rw [HA.out]
    have hc2 := hb0.1
    clear hb hb0
    go_enter Tryz.func10, Tryz.ntmps10
    go_wp2_with fail
    refine (HC.out false _ HB.out).mono ?_
    rintro e w1 ⟨rfl, rfl⟩
    go_wp2_with fail
    refine bodyPost_ret (v := .tuple #[.agg #[.slice none 0 0], .bool false]) (by simp [results, Tryz.results10, go_sem]) rfl (MatAns.nothing rfl ?_)
    first | exact HL0.out | exact HL0.out.setCell (by simp) _
  · have HA := hid (show cohnAns s.data.toList = cohnF s.data.toList (unitM 2) by unfold cohnAns; rw [if_pos hb])
    have h2 := ((lettersW_iff _).1 hb).2.1
    rw [← size_list] at h2
    have HM := hid (fun w => chMatrix_any s w h2)
    have HB := hid hb
    rw [HA.out]
    obtain ⟨o, ho⟩ : ∃ o, cohnF s.data.toList (unitM 2) = o := ⟨_, rfl⟩
    rw [ho] at HM ⊢
    clear hb hb0 ho
    go_enter Tryz.func10, Tryz.ntmps10
    go_wp2_with fail
    refine (HC.out true _ HB.out).mono ?_
    rintro e w1 ⟨rfl, rfl⟩
    go_wp2_with fail
    generalize w.alloc (Obj.cells #[Value.slice none 0 0] 32) = w0 at HB0 HL0 ⊢
    refine (HM.out _).mono ?_
    rintro e w2 ⟨v, rfl, hown, hL⟩
    obtain ⟨cx, fx⟩ := HB0.out.later hL
    have hlo := HB0.out.lt
    have HO := hid (hown.wide (show w.heap.size + 1 ≤ w0.heap.size by omega) (Nat.le_refl _))
    have HL := hid (HL0.out.trans hL)
    obtain ⟨a9, c9, rfl, _⟩ := hown.shape
    clear hown hL hlo
    go_wp2_with fail
    refine bodyPost_ret (v := .tuple #[.agg #[.slice a9 (o.getD []).length c9], .bool o.isSome]) (by simp [results, Tryz.results10, go_sem, cx]) rfl ⟨_, rfl, ?_, HL.out.setCell (by simp) _⟩
    exact (HO.out.setCell (a := ⟨w.heap.size, 0, none⟩) (by simp) _).wide (by omega) (by simp [World.setCell])
end Go.Proofs.YtmmapfdmdliifaaGreatDoor
