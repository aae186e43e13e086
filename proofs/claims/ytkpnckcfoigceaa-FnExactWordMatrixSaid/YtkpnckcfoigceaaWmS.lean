/- The product of a word of matrices, in the model, at any arguments. -/
import Derived.Test.YtkpnckcfoigceaaWmI
import Derived.Test.YtkpnckcfoigceaaMulB
namespace Go.Proofs.Ytkpnckcfoigceaa
open Go.RowKit

theorem wm_idx (zs : List Int) (m : Nat) (hl : zs.length ≤ 40) : idxOK zs m = zs.all (within 0 ((m : Int) - 1)) := by
  unfold idxOK
  rw [decide_eq_true hl, Bool.true_and]
  congr 1
  funext x
  simp only [within]
  congr 1
  exact decide_eq_decide.2 (by omega)
theorem wm_pair_false {Z : List (List (List Int))} (k : Nat) (hk : k < Z.length) (h : ¬ pairOK (Z.getD k []) (Z.getD 0 [])) : gensOK Z = false := by
  by_cases hp : genP Z (Z.getD k []) = true
  · refine gensOK_false 0 (by omega) ?_
    unfold genP at hp ⊢
    rw [Bool.and_eq_true] at hp
    rw [Bool.and_eq_false_iff]
    left
    cases hg : goodM 1000000 (Z.getD 0 [])
    · rfl
    · exact absurd ⟨hp.1, hg, of_decide_eq_true hp.2⟩ h
  · exact gensOK_false k hk (by simpa using hp)
theorem wm_pair_true {Z : List (List (List Int))} (h1 : 1 ≤ Z.length) (h8 : Z.length ≤ 8) (h : ∀ k, k < Z.length → pairOK (Z.getD k []) (Z.getD 0 [])) : gensOK Z = true :=
  gensOK_true h1 h8 fun i hi => by unfold genP; rw [(h i hi).1, decide_eq_true (h i hi).2.2]; rfl

set_option maxRecDepth 20000 in
set_option maxHeartbeats 4000000 in
theorem specWordMatrix_any (v u : Value) (Z : List (List (List Int))) (zs : List Int) (w : World) (h : MatsR w v Z) (hi : Ints w u zs) :
    Calls Try.prog 7 #[v, u] w fun e w' => MatAns w (wmAns Z zs) e w' := by
  have hb0 : Box (w.alloc (Obj.cells #[Value.slice none 0 0] 27)) w.heap.size (.slice none 0 0) := ⟨by simp [go_sem], by simp [go_sem]⟩
  have HL0 := hid (Later.alloc w (Obj.cells #[Value.slice none 0 0] 27))
  have HB0 := hid hb0
  have HI := hid (fun w' (k : Later w w') => hi.later k)
  by_cases h18 : 1 ≤ Z.length ∧ Z.length ≤ 8
  · obtain ⟨h1, h8⟩ := h18
    have HW := hid (show within 1 8 (Z.length : Int) = true by simp [within]; omega)
    by_cases hl : zs.length ≤ 40
    · have h40 : ¬ (40 : Int) < (zs.length : Int) := by omega
      have hix := wm_idx zs Z.length hl
      cases hx : idxOK zs Z.length
      · have HR := hid (show wmAns Z zs = none by unfold wmAns; rw [if_neg (by simp [hx])])
        have HX := hid (hix.symm.trans hx)
        rw [HR.out]
        obtain ⟨a1, c1, rfl, _, _⟩ := h
        obtain ⟨a2, c2, rfl, _, _⟩ := hi
        have hd0 := hb0.1
        have hwr : IntKind.i64.wrap ((Z.length : Int) - 1) = (Z.length : Int) - 1 := by rw [IntWalk.i64_left]; exact IntWalk.wrap64_in _ (by omega)
        clear hx hix hb0
        go_enter Try.func7, Try.ntmps7
        go_wp2_with fail
        refine (l1In_as _ _ _ _ _ HW.out).mono ?_
        rintro e w' ⟨rfl, rfl⟩
        go_wp2_with fail
        refine (l1All_as _ _ _ _ _ _ HX.out (HI.out _ HL0.out)).mono ?_
        rintro e w' ⟨rfl, rfl⟩
        go_wp2_with fail
        refine bodyPost_ret (v := .tuple #[.agg #[.slice none 0 0], .bool false]) (by simp [results, Try.results7, go_sem, hd0]) rfl (MatAns.none' rfl ?_)
        first | exact HL0.out | exact HL0.out.setCell (by simp) _
      · have HX := hid (hix.symm.trans hx)
        obtain ⟨_, hz⟩ := idxOK_parts hx
        have HZ := hid hz
        have HGF := hid (fun k (hk : k < Z.length) (hp : ¬ pairOK (Z.getD k []) (Z.getD 0 [])) => show wmAns Z zs = none by unfold wmAns; rw [if_neg (by simp [wm_pair_false k hk hp])])
        have HGT := hid (fun (hp : ∀ k, k < Z.length → pairOK (Z.getD k []) (Z.getD 0 [])) => show wmAns Z zs = wordF Z zs (unitM (Z.getD 0 []).length) by unfold wmAns; rw [if_pos ⟨wm_pair_true h1 h8 hp, hx⟩])
        obtain ⟨R, hR⟩ : ∃ R, wmAns Z zs = R := ⟨_, rfl⟩
        rw [hR] at HGF HGT ⊢
        obtain ⟨a1, cap, rfl, hZl, hc⟩ := h
        obtain ⟨a2, c2, rfl, _, hci⟩ := hi
        obtain ⟨ad, u0, rfl, hu0, hr0⟩ := hc 0 h1
        have HR0 := hid hr0
        have HC := hid hc
        have HCI := hid hci
        obtain ⟨G0, hG0⟩ : ∃ G0, Z.getD 0 [] = G0 := ⟨_, rfl⟩
        rw [hG0] at HR0 HGF HGT
        obtain ⟨a0, c0, rfl, _⟩ := id HR0.out
        have HU0 := hid (add_zero_at ad w _ hu0)
        have HD := hid (fun k (hk : k < zs.length) P => wordF_drop Z zs k P hk)
        have HE := hid (fun P => show wordF Z (zs.drop zs.length) P = some P by rw [List.drop_length]; rfl)
        have hd0 := hb0.1
        have hwr : IntKind.i64.wrap ((Z.length : Int) - 1) = (Z.length : Int) - 1 := by rw [IntWalk.i64_left]; exact IntWalk.wrap64_in _ (by omega)
        have hZ1 : 0 < Z.length := h1
        have hZ2 : ¬ Z.length = 0 := by omega
        clear hx hix hR hG0 hc hci hr0 hu0 hz
        go_enter Try.func7, Try.ntmps7
        go_wp2_with fail
        refine (l1In_as _ _ _ _ _ HW.out).mono ?_
        rintro e w' ⟨rfl, rfl⟩
        go_wp2_with fail
        refine (l1All_as _ _ _ _ _ _ HX.out (HI.out _ HL0.out)).mono ?_
        rintro e w' ⟨rfl, rfl⟩
        go_wp2_with fail
        generalize w.alloc (Obj.cells #[Value.slice none 0 0] 27) = w0 at hb0 hd0 HL0 HB0 ⊢
        clear hb0 hd0 HI
        go_loopw [31] (fun i wr => ∃ k : Nat, k ≤ Z.length ∧ i = .int .i64 k ∧ (∀ j, j < k → pairOK (Z.getD j []) G0) ∧ Later w0 wr) (fun i _ => Z.length - (intOf i).toNat)
        case atStart => exact ⟨0, Nat.zero_le _, rfl, fun j hj => absurd hj (Nat.not_lt_zero j), Later.refl _⟩
        case round =>
          obtain ⟨k, hk, rfl, hpre, hL⟩ := hrel
          have HPRE := hid hpre
          have HLr := hid hL
          clear hpre
          by_cases hlt : k < Z.length
          · have hltI : (k : Int) < (Z.length : Int) := by omega
            obtain ⟨ad', u, hade, hcell, hr⟩ := HC.out k hlt
            cases hade
            have HFk := hid (HGF.out k hlt)
            have HNX := hid (fun (hp : pairOK (Z.getD k []) G0) j (hj : j < k + 1) => show pairOK (Z.getD j []) G0 from if e : j = k then by rw [e]; exact hp else HPRE.out j (by omega))
            obtain ⟨X, hX⟩ : ∃ X, Z.getD k [] = X := ⟨_, rfl⟩
            rw [hX] at hr HFk HNX
            obtain ⟨a, c, rfl, _⟩ := id hr
            replace hcell := (HL0.out.trans hL).cell hcell
            have HLw := hid (HL0.out.trans hL)
            have hA := Later.alloc wr (.cells #[Value.slice a X.length c] 27)
            have HRX := hid ((hr.later HLw.out).later hA)
            have HRG := hid ((HR0.out.later HLw.out).later hA)
            have cb : (wr.alloc (.cells #[Value.slice a X.length c] 27)).cell? ⟨wr.heap.size, 0, none⟩ = some (.slice a X.length c) := by simp [go_sem]
            have ca := hA.cell (HLw.out.cell HU0.out)
            have HLA := hid (HLr.out.trans hA)
            clear hr hX hL hA
            go_wp2_with fail
            generalize wr.alloc (.cells #[Value.slice a X.length c] 27) = wa at HRX HRG cb ca HLA ⊢
            have kb : ∀ p : LaterW wa, p.now.cell? ⟨wr.heap.size, 0, none⟩ = some (.slice a X.length c) := fun p => p.later.cell cb
            have ka : ∀ p : LaterW wa, p.now.cell? ad = some (.slice a0 G0.length c0) := fun p => p.later.cell ca
            have HPA := hid (fun p : LaterW wa => foPair_any _ _ X G0 _ (HRX.out.later p.later) (HRG.out.later p.later))
            obtain ⟨b, hb⟩ : ∃ b, decide (pairOK X G0) = b := ⟨_, rfl⟩
            rw [hb] at HPA
            clear cb ca
            refine wp_region_quiet_later (by kernel_rfl) (by kernel_rfl) ?_
            repeat
              with_reducible refine wpQuiet_step (fun K hK => ?_)
              go_simp
              first
                | (with_reducible refine hK _ ?_; clear hK K)
                | (apply Exists.intro
                   refine ⟨fun _ => ?_, hK _ ?_⟩
                   (go_at_call 26; exact Calls.laterW _ (HPA.out _))
                   clear hK K)
            with_reducible refine wpQuiet_nil ?_
            intro _ hw'
            obtain ⟨⟨wq, hLq⟩, hw''⟩ := hw'
            subst hw''
            have HL3 := hid (HLA.out.trans hLq)
            clear hLq
            cases b
            · have hof := HFk.out (of_decide_eq_false hb)
              subst hof
              obtain ⟨d5, f5⟩ := HB0.out.later HL3.out
              have HL5 := hid (HL0.out.trans HL3.out)
              clear hb
              go_wp2_with fail
              refine bodyPost_ret (v := .tuple #[.agg #[.slice none 0 0], .bool false]) (by simp [results, Try.results7, go_sem, d5]) rfl (MatAns.none' rfl (HL5.out.setCell (by simp) _))
            · have HP2 := hid (HNX.out (of_decide_eq_true hb))
              clear hb
              go_wp2_with fail
              go_roundw
              case rel => exact ⟨k + 1, hlt, by go_num, HP2.out, HL3.out⟩
              case measure => simp [intOf]; omega
          · have hall : ∀ j, j < Z.length → pairOK (Z.getD j []) G0 := fun j hj => HPRE.out j (by omega)
            have HRW := hid (HGT.out hall)
            have HALL := hid hall
            have cU := (HL0.out.trans hL).cell HU0.out
            clear hall hL
            have hq := goodM_sq (HALL.out 0 hZ1).2.1
            have hn1 : 1 ≤ G0.length := hq.1
            have hn4 : G0.length ≤ 4 := hq.2.1
            have HUG := hid (show goodM 1000000 (unitM G0.length) = true by have := unitAns_good G0.length hn1 hn4; unfold ifGood at this; split at this <;> simp_all)
            have HGL := hid (fun j (hj : j < Z.length) => (⟨(HALL.out j hj).1, (HALL.out j hj).2.2⟩ : goodM 1000000 (Z.getD j []) = true ∧ (Z.getD j []).length = G0.length))
            have HLw := hid (HL0.out.trans HLr.out)
            have HB1 := hid (HB0.out.later HLr.out)
            have HS0 := hid HB0.out.lt
            have HRW2 := hid (show wordF Z (zs.drop 0) (unitM G0.length) = R by rw [HRW.out]; simp)
            have HS1 := hid HLr.out.size
            clear hq HALL HPRE HRW HLr
            go_wp2_with fail
            refine (foUnit_any G0.length _ (by omega)).mono ?_
            rintro e w2 ⟨v1, rfl, ho1, hL2⟩
            have HB2 := hid ((HB1.out.later hL2).later (Later.alloc w2 (.cells #[v1] 27)))
            have HL2 := hid ((HLw.out.trans hL2).trans (Later.alloc w2 (.cells #[v1] 27)))
            have hs1 := HB1.out.lt
            have hs2 := hL2.size
            have HO := hid (((ho1.wide (show w.heap.size + 1 ≤ wr.heap.size by omega) (Nat.le_refl _)).later (Later.alloc w2 (.cells #[v1] 27))).wide (Nat.le_refl _) (show w2.heap.size ≤ (w2.alloc (.cells #[v1] 27)).heap.size by simp))
            have hbx : Box (w2.alloc (.cells #[v1] 27)) w2.heap.size v1 := ⟨by simp [go_sem], by simp [go_sem]⟩
            have HBX := hid hbx
            have HSZ := hid (show w.heap.size < w2.heap.size by omega)
            obtain ⟨a1, c1, rfl, _⟩ := ho1.shape
            clear hL2 ho1 hbx hs1 hs2 HB1 HLw cU HU0 HB0 HL0
            go_wp2_with fail
            generalize w2.alloc (.cells #[Value.slice a1 (unitM G0.length).length c1] 27) = w3 at HB2 HL2 HO HBX ⊢
            generalize w2.heap.size = B at HBX HSZ ⊢
            generalize (Value.slice a1 (unitM G0.length).length c1) = v1 at HB2 HL2 HO HBX ⊢
            obtain ⟨n, hn⟩ : ∃ n, G0.length = n := ⟨_, rfl⟩
            rw [hn] at HUG HGL HRW2 HO hn1 hn4 ⊢
            clear hn
            go_loopw [51] (fun i wr => ∃ (k : Nat) (P : List (List Int)) (v : Value), k ≤ zs.length ∧ i = .int .i64 k ∧ goodM 1000000 P = true ∧ P.length = n ∧ Box wr w.heap.size (.slice none 0 0) ∧ Box wr B v ∧ OwnRows (w.heap.size + 1) wr.heap.size wr v P ∧ wordF Z (zs.drop k) P = R ∧ Later w wr) (fun i _ => zs.length - (intOf i).toNat)
            case atStart => exact ⟨0, unitM n, v1, Nat.zero_le _, rfl, HUG.out, mk_length n eqI, HB2.out, HBX.out, HO.out, HRW2.out, HL2.out⟩
            case round =>
              clear HB2 HBX HO HRW2 HL2 HUG
              obtain ⟨k, P, v, hk, rfl, hgP, hlP, hb2, hbx, ho, hP, hL⟩ := hrel
              have HGP := hid hgP
              have HLP := hid hlP
              have HB2 := hid hb2
              have HBX := hid hbx
              have HO := hid ho
              have HP := hid hP
              have HLr := hid hL
              obtain ⟨c2, f2⟩ := hb2
              obtain ⟨cx, fx⟩ := hbx
              clear hgP hlP ho hP hL
              by_cases hlt : k < zs.length
              · have hltI : (k : Int) < (zs.length : Int) := by omega
                have HDk := hid ((HD.out k hlt P).symm.trans HP.out)
                obtain ⟨adk, rfl, hcell⟩ := HCI.out k hlt
                replace hcell := HLr.out.cell hcell
                obtain ⟨hz0, hzl⟩ := HZ.out k hlt
                obtain ⟨x, hx⟩ : ∃ x, zs.getD k 0 = x := ⟨_, rfl⟩
                rw [hx] at hcell hz0 hzl HDk
                obtain ⟨y, rfl⟩ : ∃ y : Nat, x = (y : Int) := ⟨x.toNat, by omega⟩
                have hyl : y < Z.length := by omega
                rw [Int.toNat_natCast, HLP.out] at HDk
                obtain ⟨adg, ug, hade, hug, hrg⟩ := HC.out y hyl
                cases hade
                replace hug := HLr.out.cell hug
                have HRG := hid (hrg.later HLr.out)
                obtain ⟨hgG, hlG⟩ := HGL.out y hyl
                obtain ⟨G, hGe⟩ : ∃ G, Z.getD y [] = G := ⟨_, rfl⟩
                rw [hGe] at HDk HRG hgG hlG
                have hsP : Sq n P := by have := (goodM_sq HGP.out).2.2; rwa [HLP.out] at this
                have hsG : Sq n G := by have := (goodM_sq hgG).2.2; rwa [hlG] at this
                have HLM := hid (show (mulM n P G).length = n from mk_length n _)
                obtain ⟨ap, cp, rfl, _⟩ := HO.out.shape
                obtain ⟨ag, cg, rfl, _⟩ := hrg
                rw [hGe] at hug HRG
                have HTI := hid (fun w' (k' : Later wr w') => foTimes_any n P G hsP hsG (.slice ap P.length cp) (.slice ag G.length cg) w' (by omega) (HO.out.rows.later k') (HRG.out.later k'))
                obtain ⟨M, hM⟩ : ∃ M, mulM n P G = M := ⟨_, rfl⟩
                rw [hM] at HDk HTI HLM
                clear hx hGe hgG hlG hM hsP hsG
                go_wp2_with fail
                go_region_with (first | (go_at_call 28; refine (HTI.out _ (Later.drew wr)).mono ?_; rintro e w4 ⟨v4, rfl, ho4, hL4⟩; have HB4 := hid (HBX.out.later ((Later.drew wr).trans hL4)); have HB24 := hid (HB2.out.later ((Later.drew wr).trans hL4)); obtain ⟨d0, g0⟩ := HB4.out; obtain ⟨d2, g2⟩ := HB24.out; have HL4 := hid (HLr.out.trans ((Later.drew wr).trans hL4)); have HO4 := hid ho4; obtain ⟨a4, c4, rfl, _⟩ := ho4.shape; clear hL4 ho4))
                all_goals
                  have HBW := hid (show B < (wr.drew).heap.size by have := HBX.out.lt; simpa using this)
                  have HO5 := hid ((HO4.out.setCell (a := ⟨B, 0, none⟩) HBW.out (.slice a4 M.length c4)).wide (show w.heap.size + 1 ≤ (wr.drew).heap.size by have := HBW.out; have := HSZ.out; omega) (show w4.heap.size ≤ (w4.setCell ⟨B, 0, none⟩ (.slice a4 M.length c4)).heap.size by simp [World.setCell]))
                  have HB5 := hid (HB4.out.set (.slice a4 M.length c4))
                  have HB25 := hid (HB24.out.other (a := ⟨B, 0, none⟩) (by simp; have := HSZ.out; omega) (.slice a4 M.length c4))
                  have HL5 := hid (show Later w (w4.setCell ⟨B, 0, none⟩ (.slice a4 M.length c4)) from HL4.out.setCell (p := ⟨B, 0, none⟩) (by simp; have := HSZ.out; omega) (.slice a4 M.length c4))
                  generalize w4.setCell ⟨B, 0, none⟩ (.slice a4 M.length c4) = w5 at HB5 HB25 HO5 HL5 ⊢
                  clear d0 g0 d2 g2 HO4 HB4 HB24 HL4
                  obtain ⟨d5, f5⟩ := HB5.out
                  go_wp2_with fail
                  refine (foGood_any _ M _ HO5.out.rows).mono ?_
                  rintro e w6 ⟨rfl, hL6⟩
                  have HO6 := hid ((HO5.out.later hL6).wide (Nat.le_refl _) hL6.size)
                  have HB6 := hid (HB5.out.later hL6)
                  have HB26 := hid (HB25.out.later hL6)
                  have HL6 := hid (HL5.out.trans hL6)
                  obtain ⟨d6, f6⟩ := HB26.out
                  clear hL6 d5 f5
                  cases hgM : goodM 1000000 M
                  · have HRN := hid (show R = none by rw [← HDk.out, if_neg (by simp [hgM])])
                    clear hgM
                    go_wp2_with fail
                    refine bodyPost_ret (v := .tuple #[.agg #[.slice none 0 0], .bool false]) (by simp [results, Try.results7, go_sem, d6]) rfl (by rw [HRN.out]; exact MatAns.none' rfl (HL6.out.setCell (by simp) _))
                  · have HRS := hid (HDk.out.symm.trans (if_pos hgM))
                    have HGM := hid hgM
                    clear hgM
                    go_wp2_with fail
                    go_roundw
                    case rel => exact ⟨k + 1, M, _, hlt, by go_num, HGM.out, HLM.out, HB26.out, HB6.out, HO6.out, HRS.out.symm, HL6.out⟩
                    case measure => simp [intOf]; omega
              · have hke : k = zs.length := by omega
                subst hke
                have HRS := hid (HP.out.symm.trans (HE.out P))
                obtain ⟨a9, c9, rfl, _⟩ := HO.out.shape
                go_wp2_with fail
                refine bodyPost_ret (v := .tuple #[.agg #[.slice a9 P.length c9], .bool true]) (by simp [results, Try.results7, go_sem, c2]) rfl ⟨_, by rw [HRS.out]; rfl, ?_, HLr.out.setCell (by simp) _⟩
                rw [HRS.out]
                exact (HO.out.setCell (a := ⟨w.heap.size, 0, none⟩) (by simp) _).wide (by omega) (by simp [World.setCell])
    · have HR := hid (show wmAns Z zs = none by unfold wmAns; rw [if_neg (fun hc => hl (idxOK_parts hc.2).1)])
      have h40 : (40 : Int) < (zs.length : Int) := by omega
      rw [HR.out]
      obtain ⟨a1, c1, rfl, _, _⟩ := h
      obtain ⟨a2, c2, rfl, _, _⟩ := hi
      have hd0 := hb0.1
      clear hb0 hl
      go_enter Try.func7, Try.ntmps7
      go_wp2_with fail
      refine (l1In_as _ _ _ _ _ HW.out).mono ?_
      rintro e w' ⟨rfl, rfl⟩
      go_wp2_with fail
      refine bodyPost_ret (v := .tuple #[.agg #[.slice none 0 0], .bool false]) (by simp [results, Try.results7, go_sem, hd0]) rfl (MatAns.none' rfl ?_)
      first | exact HL0.out | exact HL0.out.setCell (by simp) _
  · have HW := hid (show within 1 8 (Z.length : Int) = false by simp only [within, Bool.and_eq_false_iff, decide_eq_false_iff_not]; omega)
    have HR := hid (show wmAns Z zs = none by unfold wmAns; rw [if_neg (fun hc => h18 ⟨(gensOK_parts hc.1).1, (gensOK_parts hc.1).2.1⟩)])
    rw [HR.out]
    obtain ⟨a1, c1, rfl, _, _⟩ := h
    obtain ⟨a2, c2, rfl, _, _⟩ := hi
    have hd0 := hb0.1
    clear hb0 h18
    go_enter Try.func7, Try.ntmps7
    go_wp2_with fail
    refine (l1In_as _ _ _ _ _ HW.out).mono ?_
    rintro e w' ⟨rfl, rfl⟩
    go_wp2_with fail
    refine bodyPost_ret (v := .tuple #[.agg #[.slice none 0 0], .bool false]) (by simp [results, Try.results7, go_sem, hd0]) rfl (MatAns.none' rfl ?_)
    first | exact HL0.out | exact HL0.out.setCell (by simp) _
end Go.Proofs.Ytkpnckcfoigceaa
