/- The walk of the law FnTwoSquaresDescend. -/
import Derived.Test.YtofmmegpadojlaaCuY
import Derived.Test.YtofmmegpadojlaaNuA
import Derived.Test.YtofmmegpadojlaaSqY
import Derived.Test.YtofmmegpadojlaaWrQ
namespace Go.Proofs.Ytofmmegpadojlaa
open Go.RowKit

theorem R9.three {w : World} {a : Option Addr} {c : Nat} {L : List (List Int)} (h : R9 w a c L) {i : Nat} (hi : i < L.length) {x y k : Int} (e : L.getD i [] = [x, y, k]) :
    ∃ ad ad2 c2, a = some ad ∧ w.cell? (ad.add i) = some (.slice (some ad2) 3 c2) ∧ w.cell? ad2 = some (.int .i64 x) ∧ w.cell? ⟨ad2.block, ad2.off + 1, none⟩ = some (.int .i64 y) ∧ w.cell? ⟨ad2.block, ad2.off + 2, none⟩ = some (.int .i64 k) := by
  obtain ⟨ad, p, c2, rfl, hcell, _, hrow⟩ := h.2 i hi
  rw [e] at hcell hrow
  obtain ⟨_, _, e7, _, hc⟩ := hrow
  simp only [Value.slice.injEq] at e7
  obtain ⟨rfl, _, rfl⟩ := e7
  obtain ⟨ad2, rfl, h0⟩ := hc 0 (by simp)
  obtain ⟨_, e1, h1⟩ := hc 1 (by simp)
  obtain ⟨_, e2, h2⟩ := hc 2 (by simp)
  simp only [Option.some.injEq] at e1 e2
  subst e1
  subst e2
  exact ⟨ad, ad2, c2, rfl, by simpa using hcell, by simpa [Addr.add] using h0, by simpa [Addr.add] using h1, by simpa [Addr.add] using h2⟩
theorem pair_lit9 (w : World) (x y : Int) : Ints (w.alloc (.cells #[.int .i64 x, .int .i64 y] 3)) (.slice (some ⟨w.heap.size, 0, none⟩) 2 2) [x, y] := by
  refine ⟨some ⟨w.heap.size, 0, none⟩, 2, rfl, by simp, fun i hi => ⟨⟨w.heap.size, 0, none⟩, rfl, ?_⟩⟩
  have := lit_cells9 w [x, y] i hi
  rw [addr_add0]
  exact this
theorem tmodBd4 (y : Int) : -4 ≤ y.tmod 4 ∧ y.tmod 4 ≤ 4 := by
  have h : (y.tmod 4).natAbs = y.natAbs % 4 := by rw [Int.natAbs_tmod]; rfl
  omega
theorem BoolOne {o : Option Bool} (h1 : o.getD false = true) (h2 : o.isSome = true) : o = some true := by
  cases o with
  | none => cases h2
  | some b => simp only [Option.getD_some] at h1; rw [h1]
set_option maxRecDepth 100000 in
set_option maxHeartbeats 8000000 in
theorem lawTwoSquaresDescend_walk (u v : Value) (xs ys : List Int) (w : World) (hx : BytesR w u xs) (hy : BytesR w v ys) :
    Calls Try.prog 3 #[u, v] w fun e w' => e = .returned (.bool true) ∧ Later w w' := by
  have HX := hid hx
  have HY := hid hy
  clear hx hy
  go_enter Try.func3, Try.ntmps3
  go_wp2_with fail
  refine (big_any u v xs ys w HX.out HY.out).mono ?_
  rintro e w0 ⟨⟨b, rfl, _⟩, rfl⟩
  cases b
  · go_wp2_with fail
    refine (drawTwoDescent_any u xs w HX.out).mono ?_
    rintro e w1 ⟨p, rfl, hL1⟩
    have HL1 := hid hL1
    clear hL1
    obtain ⟨t, ht⟩ : ∃ t, rootOk p = t := ⟨_, rfl⟩
    obtain ⟨L, hL⟩ : ∃ L, (twoAns p).getD [] = L := ⟨_, rfl⟩
    obtain ⟨r, hr⟩ : ∃ r, (sqMinusAns p).getD 0 = r := ⟨_, rfl⟩
    have HI := hid (fun w0 => rows_as9 (implTwoDescent_any p w0) hL ((two_some p).trans ht))
    have HS := hid (fun w0 => rows_as9 (specTwoDescent_any p w0) hL ((two_some p).trans ht))
    have HRI := hid (fun w0 => num_as9 (implRootOfMinusOne_any p w0) hr ((sqMinus_some p).trans ht))
    have HRS := hid (fun w0 => num_as9 (specRootOfMinusOne_any p w0) hr ((sqMinus_some p).trans ht))
    have HTT := hid ht
    have HLL := hid hL
    have HRR := hid hr
    have htt : (t != t) = false := by simp
    have hrr : (r != r) = false := by simp
    clear ht hL hr
    obtain ⟨n, hn⟩ : ∃ n, L.length = n := ⟨_, rfl⟩
    have HN := hid hn
    rw [hn] at HI HS
    clear hn
    go_wp2_with fail
    refine (HI.out _).mono ?_
    rintro e w2 ⟨a2, c2, rfl, hR2, hL2⟩
    have HR2 := hid hR2
    have HL2 := hid (HL1.out.trans hL2)
    clear hR2 hL2
    go_wp2_with fail
    refine (HS.out _).mono ?_
    rintro e w3 ⟨a3, c3, rfl, hR3, hL3⟩
    have HR3 := hid hR3
    have HR23 := hid (HR2.out.later hL3)
    have HL3 := hid (HL2.out.trans hL3)
    clear hR3 hL3
    go_wp2_with fail
    refine (HRI.out _).mono ?_
    rintro e w4 ⟨rfl, hL4⟩
    have HL34 := hid hL4
    clear hL4
    go_wp2_with fail
    refine (HRS.out _).mono ?_
    rintro e w5 ⟨rfl, hL5⟩
    have HR5 := hid (HR23.out.later (HL34.out.trans hL5))
    have HR35 := hid (HR3.out.later (HL34.out.trans hL5))
    have HL5 := hid (HL3.out.trans (HL34.out.trans hL5))
    clear hL5 HI HS HRI HRS HL1 HR2 HR3 HL2 HR23 HL3 HL34
    have HVS := (vSameLists_same _ _ _ w5 HR5.out.1 HR35.out.1)
    rw [HN.out] at HVS
    replace HVS := hid HVS
    go_upto_if 78 with (go_at_call 13; refine HVS.out.mono ?_; rintro e w6 ⟨rfl, n6, rfl⟩)
    have HL6 := hid (HL5.out.trans (Later.drewN w5 n6))
    have HR6 := hid (HR5.out.later (Later.drewN w5 n6))
    generalize w5.drewN n6 = w6 at HL6 HR6 ⊢
    clear HVS HL5 HR5 HR35
    go_wp2_with fail
    refine (drawIsPrimeNumber_any v ys _ (HY.out.later HL6.out)).mono ?_
    rintro e w7 ⟨y, rfl, hL7⟩
    have HL67 := hid hL7
    clear hL7
    obtain ⟨q, hq⟩ : ∃ q, (primAns y).getD false = q := ⟨_, rfl⟩
    obtain ⟨t2, ht2⟩ : ∃ q, (primAns y).isSome = q := ⟨_, rfl⟩
    have HPI := hid (fun w0 => bool_as9 (implIsPrimeNumber_any y w0) hq ht2)
    have HPS := hid (fun w0 => bool_as9 (specIsPrimeNumber_any y w0) hq ht2)
    have HQ := hid hq
    have HT2 := hid ht2
    have htt2 : (t2 != t2) = false := by simp
    have hqq : (q != q) = false := by simp
    clear hq ht2
    go_wp2_with fail
    refine (HPI.out _).mono ?_
    rintro e w8 ⟨rfl, hL8⟩
    have HL68 := hid (HL67.out.trans hL8)
    clear hL8
    go_wp2_with fail
    refine (HPS.out _).mono ?_
    rintro e w9 ⟨rfl, hL9⟩
    have HL9 := hid (HL6.out.trans (HL68.out.trans hL9))
    have HR9 := hid (HR6.out.later (HL68.out.trans hL9))
    clear hL9 HL67 HL68 HL6 HR6 HPI HPS
    go_upto_if 98 with fail
    go_upto_region 15 with fail
    clear htt hrr htt2 hqq
    obtain ⟨tq, htq⟩ : ∃ b, (t2 && q) = b := ⟨_, rfl⟩
    go_cut [102] (fun s wx => s = .bool tq ∧ wx = w9)
    case first =>
      cases t2 <;> cases q <;> subst htq
      all_goals
        go_wp2_with fail
        go_meet
        case rel => exact ⟨rfl, rfl⟩
    case rest =>
    obtain ⟨rfl, rfl⟩ := hcut
    have HTQ := hid (show tq = true → rootOk y = decide (y.tmod 4 ≠ 3) by
      intro h
      rw [h, Bool.and_eq_true] at htq
      obtain ⟨rfl, rfl⟩ := htq
      exact rootOk_prim (BoolOne HQ.out HT2.out))
    clear htq HQ HT2
    go_upto_if 102 with fail
    go_cut [] (fun wx => Later wc wx)
    case first =>
      cases tq
      · go_wp2_with fail
        go_meet
        case rel => exact Later.refl _
      · have hok := HTQ.out rfl
        obtain ⟨z, hz⟩ : ∃ z, y.tmod 4 = z := ⟨_, rfl⟩
        obtain ⟨r2, hr2⟩ : ∃ r, (sqMinusAns y).getD 0 = r := ⟨_, rfl⟩
        rw [hz] at hok
        have hzb := tmodBd4 y
        rw [hz] at hzb
        have hzw := wrapQ (q := z) (by omega)
        by_cases hz3 : z = 3
        · subst hz3
          have HRI := hid (fun w0 => num_as9 (implRootOfMinusOne_any y w0) hr2 ((sqMinus_some y).trans (hok.trans (show _ = false by simp))))
          clear hok hzb hzw hr2
          go_wp2_with fail
          refine (HRI.out _).mono ?_
          rintro e wa ⟨rfl, hLa⟩
          have HLa := hid hLa
          clear hLa
          go_wp2_with fail
          go_meet
          case rel => exact HLa.out
        · have hz3' : (z != 3) = true := by simp [hz3]
          have HRI := hid (fun w0 => num_as9 (implRootOfMinusOne_any y w0) hr2 ((sqMinus_some y).trans (hok.trans (show _ = true by simp [hz3]))))
          clear hok hzb hr2
          go_wp2_with fail
          refine (HRI.out _).mono ?_
          rintro e wa ⟨rfl, hLa⟩
          have HLa := hid hLa
          clear hLa
          go_wp2_with fail
          go_meet
          case rel => exact HLa.out
    case rest =>
      have HLc := hid (HL9.out.trans hcut)
      have HRc := hid (HR9.out.later hcut)
      rename World => wd
      clear hcut HL9 HR9
      cases t
      · go_wp2_with fail
        go_ret
        exact ⟨rfl, HLc.out⟩
      · obtain ⟨hp1, hp2, r', m, rest, eR, r0, r1, hmod, eL, g1, g2, g3, g4⟩ := two_facts HTT.out
        rw [HRR.out] at eR
        subst eR
        rw [HLL.out] at eL g1 g2 g3
        have G1 := hid g1
        have G2 := hid g2
        have G3 := hid g3
        have G4 := hid g4
        have hn1 : 0 < L.length := by rw [eL]; simp
        have e0 : L.getD 0 [] = [r, 1, m] := by rw [eL]; rfl
        obtain ⟨ad, adf, cf, rfl, hc, hc0, hc1, _⟩ := R9.three HRc.out hn1 e0
        replace hc := (show _ = _ by simpa [Addr.add] using hc)
        rw [HN.out] at hn1
        have h0n : (0 : Int) < (n : Int) := by omega
        obtain ⟨q1, q2⟩ := mulBdC (x := r) (y := r) (B := 1000000) (C := 1000000) (by omega) (by omega)
        obtain ⟨S, hS⟩ : ∃ S, r * r = S := ⟨_, rfl⟩
        rw [hS] at q1 q2 hmod
        have hSw := wrapQ (q := S) (by omega)
        have hSw1 := wrapQ (q := S + 1) (by omega)
        have hpz : ¬ p = 0 := by omega
        have hrr : (r != r) = false := by simp
        have hnb : (n : Int) ≤ 9223372036854775807 := by
          obtain ⟨_, _, e9, hl9, _⟩ := HRc.out.1
          have := HN.out; omega
        obtain ⟨N, hN⟩ : ∃ N : Nat, n = N + 1 := ⟨n - 1, by omega⟩
        have HNN := hid hN
        have hNI : (n : Int) - 1 = (N : Int) := by omega
        have hNw := wrapQ (q := (N : Int)) (by omega)
        have hNn : (N : Int) < (n : Int) := by omega
        clear g1 g2 g3 g4 e0 eL HLL HRR HTT hN
        go_wp2_with fail
        clear hc hc0 hc1 hmod hS q1 q2 hSw hSw1 hrr
        go_loopw [141] (fun i wr => ∃ k : Nat, k ≤ n ∧ i = .int .i64 k ∧ Later wd wr) (fun i _ => n - (intOf i).toNat)
        case atStart => exact ⟨0, Nat.zero_le _, rfl, Later.refl _⟩
        case round =>
          obtain ⟨k, hk, rfl, hLr⟩ := hrel
          have HLr := hid hLr
          by_cases hlt : k < n
          · have hltI : (k : Int) < (n : Int) := by omega
            have hkL : k < L.length := by rw [HN.out]; exact hlt
            obtain ⟨x, y, K, es, hD, hK1⟩ := G1.out (L.getD k []) (by rw [List.getD_eq_getElem?_getD, List.getElem?_eq_getElem hkL]; exact List.getElem_mem hkL)
            obtain ⟨ad', ad6, c6, hu6, hc, hc0, hc1, hc2⟩ := R9.three (show R9 wr _ _ _ from HRc.out.later hLr) hkL es
            simp only [Option.some.injEq] at hu6
            subst hu6
            have hK2 : at2 (L.getD k []) = K := by rw [es]; rfl
            have hg3 := G3.out k hkL
            rw [hK2, HN.out] at hg3
            obtain ⟨⟨x0, x1⟩, ⟨y0, y1⟩, hm0, hm1⟩ := hD.bd (by omega) hp2
            have hKp : K < p := hD.mp
            have heq := hD.eq
            obtain ⟨q1, q2⟩ := mulBdC (x := x) (y := x) (B := 1000000) (C := 1000000) (by omega) (by omega)
            obtain ⟨q3, q4⟩ := mulBdC (x := y) (y := y) (B := 1000000) (C := 1000000) (by omega) (by omega)
            obtain ⟨X, hX⟩ : ∃ X, x * x = X := ⟨_, rfl⟩
            obtain ⟨Y, hY⟩ : ∃ X, y * y = X := ⟨_, rfl⟩
            rw [hX] at q1 q2 heq
            rw [hY] at q3 q4 heq
            obtain ⟨T, hT⟩ : ∃ T, X + Y = T := ⟨_, rfl⟩
            have hKP : K * p = T := by omega
            have hXw := wrapQ (q := X) (by omega)
            have hYw := wrapQ (q := Y) (by omega)
            have hTw := wrapQ (q := T) (by omega)
            have hKw := wrapQ (q := K) (by omega)
            have hTT : (T != T) = false := by simp
            have hN := HNN.out
            obtain ⟨b, hb1, hb2⟩ : ∃ b : Bool, (K == 1) = b ∧ ((k : Int) == (N : Int)) = b := by
              by_cases h : K = 1
              · refine ⟨true, by simp [h], ?_⟩
                have := hg3.1 h
                rw [show k = N by omega]; simp
              · refine ⟨false, by simp [h], ?_⟩
                have : ¬ k = N := fun e => h (hg3.2 (by omega))
                simp; omega
            have hbb : (!b == b) = false := by cases b <;> rfl
            clear hN es hD hg3 hLr heq
            rcases Nat.eq_zero_or_pos k with hkz | hkz
            · as_aux_lemma =>
                clear hK2
                subst hkz
                replace hc := (show _ = _ by simpa [Addr.add] using hc)
                replace hb2 : ((0 : Int) == (N : Int)) = b := hb2
                go_wp2_with fail
                go_quiet (fail)
                go_wp2_with fail
                go_roundw
                case rel => exact ⟨1, hlt, by go_num, HLr.out.trans (Later.drewN _ _)⟩
                case measure => simp [intOf]; omega
            · as_aux_lemma =>
                obtain ⟨j, hj⟩ : ∃ j, k = j + 1 := ⟨k - 1, by omega⟩
                have hjL : j < L.length := by omega
                have hg2 := G2.out j (by omega)
                rw [← hj, hK2] at hg2
                obtain ⟨x', y', K', es', hD', _⟩ := G1.out (L.getD j []) (by rw [List.getD_eq_getElem?_getD, List.getElem?_eq_getElem hjL]; exact List.getElem_mem hjL)
                have hK2' : at2 (L.getD j []) = K' := by rw [es']; rfl
                rw [hK2'] at hg2
                obtain ⟨ad8, ad9, c9, hu8, hd, _, _, hd2⟩ := R9.three (show R9 wr _ _ _ from HRc.out.later HLr.out) hjL es'
                simp only [Option.some.injEq] at hu8
                subst hu8
                have hjI : (j : Int) < (n : Int) := by omega
                have hk1 : (k : Int) - 1 = (j : Int) := by omega
                have hk0 : (0 : Int) < (k : Int) := by omega
                have hjw := wrapQ (q := (j : Int)) (by omega)
                obtain ⟨K2, hK22⟩ : ∃ K2, 2 * K = K2 := ⟨_, rfl⟩
                have hK2w := wrapQ (q := K2) (by omega)
                have hge : ¬ K' < K2 := by omega
                clear es' hg2 hj hK2 hK2' hD'
                go_wp2_with fail
                go_quiet (fail)
                go_wp2_with fail
                go_roundw
                case rel => exact ⟨k + 1, hlt, by go_num, HLr.out.trans (Later.drewN _ _)⟩
                case measure => simp [intOf]; omega
          · as_aux_lemma =>
              obtain rfl : k = n := by omega
              have hNL : N < L.length := by rw [HN.out, HNN.out]; omega
              obtain ⟨x, y, K, es, hD, hK1⟩ := G1.out (L.getD N []) (by rw [List.getD_eq_getElem?_getD, List.getElem?_eq_getElem hNL]; exact List.getElem_mem hNL)
              obtain ⟨ad', ad6, c6, hu6, hc, hc0, hc1, hc2⟩ := R9.three (show R9 wr _ _ _ from HRc.out.later hLr) hNL es
              simp only [Option.some.injEq] at hu6
              subst hu6
              have hK2 : at2 (L.getD N []) = K := by rw [es]; rfl
              have hg3 := G3.out N hNL
              rw [hK2, HN.out] at hg3
              have hK1 := hg3.2 (by rw [HNN.out])
              subst hK1
              have heq := hD.eq
              rw [Int.one_mul] at heq
              obtain ⟨ef, ea⟩ := G4.out x y hD.a0 hD.b0 heq
              have HF := hid (fun w0 => ints_as9 (o := some [gtr x y, lss x y]) (by have h := implTwoSquares_any p w0; rw [ef] at h; exact h) rfl rfl)
              have HA := hid (fun w0 => rows_as9 (o := some [[gtr x y, lss x y]]) (by have h := implAllTwoSquares_any p w0; rw [ea] at h; exact h) rfl rfl)
              have HLr := hid (HLc.out.trans hLr)
              clear hLr es hD hg3 hK2 heq ef ea
              go_wp2_with fail
              go_quiet (fail)
              have HQ := hid (HLr.out.trans (Later.drewN wr nq))
              replace hc0 := (Later.drewN wr nq).cell hc0
              replace hc1 := (Later.drewN wr nq).cell hc1
              clear hc hc2
              generalize wr.drewN nq = we at HQ hc0 hc1 ⊢
              by_cases hxy : x < y
              · rw [show gtr x y = y from if_pos hxy, show lss x y = x from if_pos hxy] at HF HA
                go_wp2_with fail
                refine (HF.out _).mono ?_
                rintro e wf ⟨vf, rfl, hIf, hLf⟩
                have HIf := hid hIf
                have HLf := hid (HQ.out.trans hLf)
                clear hIf hLf
                go_wp2_with fail
                refine (HA.out _).mono ?_
                rintro e wg ⟨ag, cg, rfl, hRg, hLg⟩
                have HIg := hid (HIf.out.later hLg)
                have HLg := hid (HLf.out.trans hLg)
                clear hRg hLg
                go_wp2_with fail
                refine (vSame_same _ _ [y, x] _ (HIg.out.later (Later.alloc wg _)) (pair_lit9 wg y x)).mono ?_
                rintro e wh ⟨rfl, nh, rfl⟩
                go_wp2_with fail
                go_ret
                exact ⟨rfl, HLg.out.trans ((Later.alloc wg _).trans (Later.drewN _ _))⟩
              · rw [show gtr x y = x from if_neg hxy, show lss x y = y from if_neg hxy] at HF HA
                go_wp2_with fail
                refine (HF.out _).mono ?_
                rintro e wf ⟨vf, rfl, hIf, hLf⟩
                have HIf := hid hIf
                have HLf := hid (HQ.out.trans hLf)
                clear hIf hLf
                go_wp2_with fail
                refine (HA.out _).mono ?_
                rintro e wg ⟨ag, cg, rfl, hRg, hLg⟩
                have HIg := hid (HIf.out.later hLg)
                have HLg := hid (HLf.out.trans hLg)
                clear hRg hLg
                go_wp2_with fail
                refine (vSame_same _ _ [x, y] _ (HIg.out.later (Later.alloc wg _)) (pair_lit9 wg x y)).mono ?_
                rintro e wh ⟨rfl, nh, rfl⟩
                go_wp2_with fail
                go_ret
                exact ⟨rfl, HLg.out.trans ((Later.alloc wg _).trans (Later.drewN _ _))⟩
  · go_wp2_with fail
    go_ret
    exact ⟨rfl, Later.refl _⟩
end Go.Proofs.Ytofmmegpadojlaa
