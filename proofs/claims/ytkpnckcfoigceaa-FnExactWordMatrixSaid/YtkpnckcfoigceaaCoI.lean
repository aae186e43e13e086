/- Words of matrices in the program, at generators and indices that are good. -/
import Derived.Test.YtkpnckcfoigceaaCoS
import Derived.Test.YtkpnckcfoigceaaMulA
import Derived.Deep.RegionHeld3
import Derived.StillTailTactics
import Derived.Test.YtkpnckcfoigceaaIdxA
namespace Go.Proofs.Ytkpnckcfoigceaa
open Go.RowKit

/-- A slice of matrices: each cell holds the rows of one. -/
def Mats (w : World) (v : Value) (Z : List (List (List Int))) : Prop :=
  ∃ ad cap, v = .slice (some ad) Z.length cap ∧ Z.length ≤ 8 ∧ ∀ i, i < Z.length → ∃ u, w.cell? (ad.add i) = some u ∧ Rows2 w u (Z.getD i [])
theorem Mats.later {w w' : World} {v : Value} {Z : List (List (List Int))} (h : Mats w v Z) (k : Later w w') : Mats w' v Z := by
  obtain ⟨ad, cap, rfl, hl, hc⟩ := h
  refine ⟨ad, cap, rfl, hl, fun i hi => ?_⟩
  obtain ⟨u, hx, hr⟩ := hc i hi
  exact ⟨u, k.cell hx, hr.later k⟩
theorem add_zero_at (ad : Addr) (w : World) (u : Value) (h : w.cell? (ad.add 0) = some u) : w.cell? ad = some u := by
  have : ad.add 0 = ad := by unfold Addr.add; simp
  rwa [this] at h

theorem isIndexWord_ok (v : Value) (zs : List Int) (n : Nat) (w : World) (hl : zs.length ≤ 40) (_hn : n ≤ 8) (h : Ints w v zs) (hz : ∀ i, i < zs.length → 0 ≤ zs.getD i 0 ∧ zs.getD i 0 < (n : Int)) :
    Calls Try.prog 32 #[v, .int .i64 (n : Nat)] w fun e w' => e = .returned (.bool true) ∧ w = w' := by
  have hA : (decide (zs.length ≤ 40) && zs.all (within 0 ((n : Int) - 1))) = true := by
    rw [decide_eq_true hl, Bool.true_and, List.all_eq_true]
    intro x hx
    obtain ⟨i, hi, rfl⟩ := List.getElem_of_mem hx
    have := hz i hi
    rw [getD_at zs i hi] at this
    rw [within_below, decide_eq_true this.1, decide_eq_true this.2]; rfl
  have := isIdx_any v zs n w h
  rw [hA] at this
  exact this

set_option maxRecDepth 20000 in
set_option maxHeartbeats 2000000 in
theorem areGenerators_ok (v : Value) (Z : List (List (List Int))) (n : Nat) (w : World) (h1 : 1 ≤ Z.length) (h : Mats w v Z) (hg : ∀ i, i < Z.length → goodM 1000000 (Z.getD i []) = true ∧ (Z.getD i []).length = n) :
    Calls Try.prog 31 #[v] w fun e w' => e = .returned (.bool true) ∧ Later w w' := by
  obtain ⟨ad, cap, rfl, h8, hc⟩ := h
  obtain ⟨u0, hu0, hr0⟩ := hc 0 h1
  obtain ⟨a0, c0, rfl, _⟩ := hr0
  rw [(hg 0 h1).2] at hu0
  have HU0 := hid (add_zero_at ad w _ hu0)
  have hZ0 : (0 : Int) < (Z.length : Int) := by omega
  have hZ1 : 0 < Z.length := h1
  have hZ2 : ¬ Z.length = 0 := by omega
  have hZ3 : ¬ (Z.length : Int) ≤ 0 := by omega
  have HC := hid hc
  have HG := hid hg
  clear hc hg hu0
  go_enter Try.func31, Try.ntmps31
  go_wp2_with fail
  go_loopw [15] (fun i wr => ∃ k : Nat, k ≤ Z.length ∧ i = .int .i64 k ∧ Later w wr) (fun i _ => Z.length - (intOf i).toNat)
  case atStart => exact ⟨0, Nat.zero_le _, rfl, Later.refl _⟩
  case round =>
    obtain ⟨k, hk, rfl, hL⟩ := hrel
    have HLr := hid hL
    by_cases hlt : k < Z.length
    · have hltI : (k : Int) < (Z.length : Int) := by omega
      obtain ⟨u, hcell, hr⟩ := HC.out k hlt
      obtain ⟨hgd, hln⟩ := HG.out k hlt
      obtain ⟨a, c, rfl, _⟩ := id hr
      rw [hln] at hcell hr
      replace hcell := hL.cell hcell
      have HGD := hid hgd
      obtain ⟨X, hX⟩ : ∃ X, Z.getD k [] = X := ⟨_, rfl⟩
      rw [hX] at HGD hr
      have HRX := hid ((hr.later hL).later (Later.alloc wr (.cells #[Value.slice a n c] 27)))
      have cb : (wr.alloc (.cells #[Value.slice a n c] 27)).cell? ⟨wr.heap.size, 0, none⟩ = some (.slice a n c) := by simp [go_sem]
      have ca := (Later.alloc wr (.cells #[Value.slice a n c] 27)).cell (hL.cell HU0.out)
      have HLA := hid (HLr.out.trans (Later.alloc wr (.cells #[Value.slice a n c] 27)))
      have hne : ((n : Int) != (n : Int)) = false := by simp
      clear hr hX hgd hln hL
      go_wp2_with fail
      generalize wr.alloc (.cells #[Value.slice a n c] 27) = wa at HRX cb ca HLA ⊢
      go_region_held3 (fun w' => w'.cell? ⟨wr.heap.size, 0, none⟩ = some (.slice a n c) ∧ w'.cell? ad = some (.slice a0 n c0)) (first | exact ⟨cb, ca⟩ | exact ⟨db, da⟩) (first | (go_at_call 48; refine (implIsMatrix_any _ X _ (HRX.out.later (Later.drew wa))).mono ?_; rintro e w3 ⟨rfl, hL3⟩; have db := hL3.cell (w := wa.drew) cb; have da := hL3.cell (w := wa.drew) ca; have HL3 := hid (HLA.out.trans ((Later.drew wa).trans hL3)); rw [HGD.out]; clear hL3))
      go_wp2_with fail
      go_roundw
      case rel => exact ⟨k + 1, hlt, by go_num, HL3.out⟩
      case measure => simp [intOf]; omega
    · go_wp2_with fail
      go_ret
      exact ⟨rfl, HLr.out⟩
def wordF (Z : List (List (List Int))) : List Int → List (List Int) → Option (List (List Int))
  | [], P => some P
  | i :: r, P => if goodM 1000000 (mulM P.length P (Z.getD i.toNat [])) = true then wordF Z r (mulM P.length P (Z.getD i.toNat [])) else none
theorem wordF_drop (Z : List (List (List Int))) (zs : List Int) (k : Nat) (P : List (List Int)) (hk : k < zs.length) : wordF Z (zs.drop k) P = if goodM 1000000 (mulM P.length P (Z.getD (zs.getD k 0).toNat [])) = true then wordF Z (zs.drop (k + 1)) (mulM P.length P (Z.getD (zs.getD k 0).toNat [])) else none := by
  have e : zs.getD k 0 = zs[k] := by simp [List.getD_eq_getElem?_getD, List.getElem?_eq_getElem hk]
  rw [List.drop_eq_getElem_cons hk, e]
  rfl

set_option maxRecDepth 20000 in
set_option maxHeartbeats 4000000 in
theorem WordMatrix_ok (v u : Value) (Z : List (List (List Int))) (zs : List Int) (n : Nat) (w : World) (h1 : 1 ≤ Z.length) (hn1 : 1 ≤ n) (hn4 : n ≤ 4) (hl : zs.length ≤ 40) (h : Mats w v Z) (hi : Ints w u zs)
    (hg : ∀ i, i < Z.length → goodM 1000000 (Z.getD i []) = true ∧ (Z.getD i []).length = n) (hz : ∀ i, i < zs.length → 0 ≤ zs.getD i 0 ∧ zs.getD i 0 < (Z.length : Int)) :
    Calls Try.prog 10 #[v, u] w fun e w' => MatAns w (wordF Z zs (unitM n)) e w' := by
  have hb0 : Box (w.alloc (Obj.cells #[Value.slice none 0 0] 27)) w.heap.size (.slice none 0 0) := ⟨by simp [go_sem], by simp [go_sem]⟩
  have HL0 := hid (Later.alloc w (Obj.cells #[Value.slice none 0 0] 27))
  have HB0 := hid hb0
  have HG1 := hid (fun w' (k : Later w w') => areGenerators_ok v Z n w' h1 (h.later k) hg)
  have HM := hid (fun w' (k : Later w w') => h.later k)
  have HI := hid (fun w' (k : Later w w') => hi.later k)
  obtain ⟨ad, cap, rfl, h8, hc⟩ := h
  obtain ⟨ai, ci, rfl, _, hci⟩ := id hi
  have HG2 := hid (fun w' (k : Later w w') => isIndexWord_ok (.slice ai zs.length ci) zs Z.length w' hl h8 (hi.later k) hz)
  have hu : unitAns (n : Int) = some (unitM n) := by unfold unitAns; rw [if_pos ⟨by omega, by omega⟩]; simp
  have HU := hid (fun w' => (show Calls Try.prog 33 #[.int .i64 (n : Int)] w' fun e w2 => ∃ v, e = .returned (.tuple #[.agg #[v], .bool true]) ∧ OwnRows w'.heap.size w2.heap.size w2 v (unitM n) ∧ Later w' w2 by have := implUnitMatrix_any (n : Int) w'; rw [hu] at this; exact this))
  have HUG := hid (show goodM 1000000 (unitM n) = true by have := unitAns_good n hn1 hn4; unfold ifGood at this; split at this <;> simp_all)
  obtain ⟨u0, hu0, hr0⟩ := hc 0 h1
  obtain ⟨a0, c0, rfl, _⟩ := hr0
  rw [(hg 0 h1).2] at hu0
  have HU0 := hid (add_zero_at ad w _ hu0)
  have HC := hid hc
  have HCI := hid hci
  have HG := hid hg
  have HZ := hid hz
  have hZ1 : 0 < Z.length := h1
  have HD := hid (fun k (hk : k < zs.length) P => wordF_drop Z zs k P hk)
  have HE := hid (fun P => show wordF Z (zs.drop zs.length) P = some P by rw [List.drop_length]; rfl)
  obtain ⟨R, hR⟩ : ∃ R, wordF Z zs (unitM n) = R := ⟨_, rfl⟩
  have HR0 := hid (show wordF Z (zs.drop 0) (unitM n) = R by simpa using hR)
  rw [hR]
  clear hR hc hci hg hz hu hu0 hi hb0
  go_enter Try.func10, Try.ntmps10
  go_wp2_with fail
  refine (HG1.out _ HL0.out).mono ?_
  rintro e w1 ⟨rfl, hL1⟩
  have HL1 := hid (HL0.out.trans hL1)
  have HB1 := hid (HB0.out.later hL1)
  clear hL1
  go_wp2_with fail
  refine (HG2.out _ HL1.out).mono ?_
  rintro e w1' ⟨rfl, rfl⟩
  have cU := HL1.out.cell HU0.out
  go_wp2_with fail
  refine (HU.out _).mono ?_
  rintro e w2 ⟨v1, rfl, ho1, hL2⟩
  have HB2 := hid ((HB1.out.later hL2).later (Later.alloc w2 (.cells #[v1] 27)))
  have HL2 := hid ((HL1.out.trans hL2).trans (Later.alloc w2 (.cells #[v1] 27)))
  have hs1 := HB1.out.lt
  have hs2 := hL2.size
  have HO := hid (((ho1.wide (show w.heap.size + 1 ≤ w1.heap.size by omega) (Nat.le_refl _)).later (Later.alloc w2 (.cells #[v1] 27))).wide (Nat.le_refl _) (show w2.heap.size ≤ (w2.alloc (.cells #[v1] 27)).heap.size by simp))
  have hbx : Box (w2.alloc (.cells #[v1] 27)) w2.heap.size v1 := ⟨by simp [go_sem], by simp [go_sem]⟩
  have HBX := hid hbx
  have HSZ := hid (show w.heap.size < w2.heap.size by omega)
  obtain ⟨a1, c1, rfl, _⟩ := ho1.shape
  clear hL2 ho1 hbx HL0 HB0 HB1 HL1 hs1 hs2 cU HU
  go_wp2_with fail
  generalize w2.alloc (.cells #[Value.slice a1 (unitM n).length c1] 27) = w3 at HB2 HL2 HO HBX ⊢
  generalize w2.heap.size = B at HBX HSZ ⊢
  generalize (Value.slice a1 (unitM n).length c1) = v1 at HB2 HL2 HO HBX ⊢
  go_loopw [7, 32] (fun ok i wr => ∃ (k : Nat) (P : List (List Int)) (v : Value), k ≤ zs.length ∧ ok = .bool true ∧ i = .int .i64 k ∧ goodM 1000000 P = true ∧ P.length = n ∧ Box wr w.heap.size (.slice none 0 0) ∧ Box wr B v ∧ OwnRows (w.heap.size + 1) wr.heap.size wr v P ∧ wordF Z (zs.drop k) P = R ∧ Later w wr) (fun _ i _ => zs.length - (intOf i).toNat)
  case atStart => exact ⟨0, unitM n, v1, Nat.zero_le _, rfl, rfl, HUG.out, mk_length n eqI, HB2.out, HBX.out, HO.out, HR0.out, HL2.out⟩
  case round =>
    clear HB2 HBX HO HR0 HL2 HUG
    obtain ⟨k, P, v, hk, rfl, rfl, hgP, hlP, hb2, hbx, ho, hP, hL⟩ := hrel
    have HGP := hid hgP
    have HLP := hid hlP
    have HB2 := hid hb2
    have HBX := hid hbx
    have HO := hid ho
    have HP := hid hP
    have HLr := hid hL
    obtain ⟨c2, f2⟩ := hb2
    obtain ⟨cx, fx⟩ := hbx
    clear hgP hlP ho hP hL
    by_cases hlt : k < zs.length
    · have hltI : (k : Int) < (zs.length : Int) := by omega
      have HDk := hid ((HD.out k hlt P).symm.trans HP.out)
      obtain ⟨adk, rfl, hcell⟩ := HCI.out k hlt
      replace hcell := HLr.out.cell hcell
      obtain ⟨hz0, hzl⟩ := HZ.out k hlt
      obtain ⟨x, hx⟩ : ∃ x, zs.getD k 0 = x := ⟨_, rfl⟩
      rw [hx] at hcell hz0 hzl HDk
      obtain ⟨y, rfl⟩ : ∃ y : Nat, x = (y : Int) := ⟨x.toNat, by omega⟩
      have hyl : y < Z.length := by omega
      rw [Int.toNat_natCast] at HDk
      obtain ⟨ug, hug, hrg⟩ := HC.out y hyl
      replace hug := HLr.out.cell hug
      have HRG := hid (hrg.later HLr.out)
      obtain ⟨hgG, hlG⟩ := HG.out y hyl
      obtain ⟨G, hGe⟩ : ∃ G, Z.getD y [] = G := ⟨_, rfl⟩
      rw [hGe] at HDk HRG hgG hlG
      have HMA := hid (show mulAns P G = if goodM 1000000 (mulM P.length P G) = true then some (mulM P.length P G) else none by unfold mulAns; rw [if_pos ⟨HGP.out, hgG, by rw [HLP.out, hlG]⟩]; rfl)
      have HLM := hid (show (mulM P.length P G).length = n by rw [mulM, mk_length]; exact HLP.out)
      obtain ⟨ap, cp, rfl, _⟩ := HO.out.shape
      obtain ⟨ag, cg, rfl, _⟩ := hrg
      rw [hGe] at hug HRG
      obtain ⟨M, hM⟩ : ∃ M, mulM P.length P G = M := ⟨_, rfl⟩
      rw [hM] at HDk HMA HLM
      have HMU' := hid (fun w' (k' : Later wr w') => implMultiplyMatrices_any (.slice ap P.length cp) (.slice ag G.length cg) P G w' (HO.out.rows.later k') (HRG.out.later k'))
      clear hx hGe hgG hlG hM
      cases hgM : goodM 1000000 M
      · have HMU := hid (fun w' (k' : Later wr w') => (show Calls Try.prog 34 #[.agg #[.slice ap P.length cp], .agg #[.slice ag G.length cg]] w' fun e w2 => ∃ v, e = .returned (.tuple #[.agg #[v], .bool false]) ∧ OwnRows w'.heap.size w2.heap.size w2 v [] ∧ Later w' w2 by have := HMU'.out w' k'; rw [HMA.out, if_neg (by simp [hgM])] at this; exact this))
        have HRN := hid (show R = none by rw [← HDk.out, if_neg (by simp [hgM])])
        clear hgM HMU'
        go_wp2_with fail
        go_region_with (first | (go_at_call 34; refine (HMU.out _ (Later.drew wr)).mono ?_; rintro e w4 ⟨v4, rfl, ho4, hL4⟩; have HB4 := hid (HBX.out.later ((Later.drew wr).trans hL4)); have HB24 := hid (HB2.out.later ((Later.drew wr).trans hL4)); obtain ⟨d0, g0⟩ := HB4.out; obtain ⟨d2, g2⟩ := HB24.out; have HL4 := hid (HLr.out.trans ((Later.drew wr).trans hL4)); have HO4 := hid ho4; obtain ⟨a4, c4, rfl, _⟩ := ho4.shape; clear hL4 ho4))
        all_goals
          have HB5 := hid (HB24.out.other (a := ⟨B, 0, none⟩) (by simp; have := HSZ.out; omega) (.slice a4 0 c4))
          have HL5 := hid (show Later w (w4.setCell ⟨B, 0, none⟩ (.slice a4 0 c4)) from HL4.out.setCell (p := ⟨B, 0, none⟩) (by simp; have := HSZ.out; omega) (.slice a4 0 c4))
          generalize w4.setCell ⟨B, 0, none⟩ (.slice a4 0 c4) = w5 at HB5 HL5 ⊢
          obtain ⟨d5, f5⟩ := HB5.out
          clear d0 g0 d2 g2
          go_wp2_with fail
          refine bodyPost_ret (v := .tuple #[.agg #[.slice none 0 0], .bool false]) (by simp [results, Try.results10, go_sem, d5]) rfl (by rw [HRN.out]; exact MatAns.nothing rfl (HL5.out.setCell (by simp) _))
      · have HMU := hid (fun w' (k' : Later wr w') => (show Calls Try.prog 34 #[.agg #[.slice ap P.length cp], .agg #[.slice ag G.length cg]] w' fun e w2 => ∃ v, e = .returned (.tuple #[.agg #[v], .bool true]) ∧ OwnRows w'.heap.size w2.heap.size w2 v M ∧ Later w' w2 by have := HMU'.out w' k'; rw [HMA.out, if_pos hgM] at this; exact this))
        have HRS := hid (HDk.out.symm.trans (if_pos hgM))
        have HGM := hid hgM
        clear hgM HMU'
        go_wp2_with fail
        go_region_with (first | (go_at_call 34; refine (HMU.out _ (Later.drew wr)).mono ?_; rintro e w4 ⟨v4, rfl, ho4, hL4⟩; have HB4 := hid (HBX.out.later ((Later.drew wr).trans hL4)); have HB24 := hid (HB2.out.later ((Later.drew wr).trans hL4)); obtain ⟨d0, g0⟩ := HB4.out; obtain ⟨d2, g2⟩ := HB24.out; have HL4 := hid (HLr.out.trans ((Later.drew wr).trans hL4)); have HO4 := hid ho4; obtain ⟨a4, c4, rfl, _⟩ := ho4.shape; clear hL4 ho4))
        all_goals
          have HBW := hid (show B < (wr.drew).heap.size by have := HBX.out.lt; simpa using this)
          have HO5 := hid ((HO4.out.setCell (a := ⟨B, 0, none⟩) HBW.out (.slice a4 M.length c4)).wide (show w.heap.size + 1 ≤ (wr.drew).heap.size by have := HBW.out; have := HSZ.out; omega) (show w4.heap.size ≤ (w4.setCell ⟨B, 0, none⟩ (.slice a4 M.length c4)).heap.size by simp [World.setCell]))
          have HB5 := hid (HB4.out.set (.slice a4 M.length c4))
          have HB25 := hid (HB24.out.other (a := ⟨B, 0, none⟩) (by simp; have := HSZ.out; omega) (.slice a4 M.length c4))
          have HL5 := hid (show Later w (w4.setCell ⟨B, 0, none⟩ (.slice a4 M.length c4)) from HL4.out.setCell (p := ⟨B, 0, none⟩) (by simp; have := HSZ.out; omega) (.slice a4 M.length c4))
          generalize w4.setCell ⟨B, 0, none⟩ (.slice a4 M.length c4) = w5 at HB5 HB25 HO5 HL5 ⊢
          clear d0 g0 d2 g2
          go_wp2_with fail
          go_roundw
          case rel => exact ⟨k + 1, M, _, hlt, rfl, by go_num, HGM.out, HLM.out, HB25.out, HB5.out, HO5.out, HRS.out.symm, HL5.out⟩
          case measure => simp [intOf]; omega
    · have hke : k = zs.length := by omega
      subst hke
      have HRS := hid (HP.out.symm.trans (HE.out P))
      obtain ⟨a9, c9, rfl, _⟩ := HO.out.shape
      go_wp2_with fail
      refine bodyPost_ret (v := .tuple #[.agg #[.slice a9 P.length c9], .bool true]) (by simp [results, Try.results10, go_sem, c2]) rfl ⟨_, by rw [HRS.out]; rfl, ?_, HLr.out.setCell (by simp) _⟩
      rw [HRS.out]
      exact (HO.out.setCell (a := ⟨w.heap.size, 0, none⟩) (by simp) _).wide (by omega) (by simp [World.setCell])
end Go.Proofs.Ytkpnckcfoigceaa
