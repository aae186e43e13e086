/- The walk of the law FnFourSquaresDescend. -/
import Derived.Test.YtofmmegpadojlaaCuX
import Derived.Test.YtofmmegpadojlaaSqBG
import Derived.Test.YtofmmegpadojlaaSqBF
import Derived.Test.YtofmmegpadojlaaWrQ
namespace Go.Proofs.Ytofmmegpadojlaa
open Go.RowKit

theorem four_law {p : Int} {t : Bool} (ht : primUp p 2000 = t) : (fourAns p).isSome = t ∧ (startAns p).isSome = t := by
  unfold fourAns startAns; cases t <;> simp [ht]
theorem mulFour_some {z1 z2 : List Int} : (mulFourAns z1 z2).isSome = true → partsB 4 z1 = true ∧ partsB 4 z2 = true ∧ (mulFourAns z1 z2).getD [] = mul4L z1 z2 := by
  unfold mulFourAns; split
  · rename_i h; intro _; exact ⟨h.1, h.2, rfl⟩
  · intro h; cases h
theorem sqTo_in {zs : List Int} (hl : zs.length = 4) (hb : ∀ z ∈ zs, -10000 ≤ z ∧ z ≤ 10000) : 0 ≤ sqTo zs 4 ∧ sqTo zs 4 ≤ 400000000 := by
  match zs, hl with
  | [a, b, c, d], _ =>
    rw [sqTo_4]
    have h1 := mulBdC (hb a (by simp)) (hb a (by simp))
    have h2 := mulBdC (hb b (by simp)) (hb b (by simp))
    have h3 := mulBdC (hb c (by simp)) (hb c (by simp))
    have h4 := mulBdC (hb d (by simp)) (hb d (by simp))
    have g1 := Sq.sq0 a; have g2 := Sq.sq0 b; have g3 := Sq.sq0 c; have g4 := Sq.sq0 d
    omega
set_option maxRecDepth 100000 in
set_option maxHeartbeats 8000000 in
theorem lawFourSquaresDescend_walk (u v : Value) (xs ys : List Int) (w : World) (hx : BytesR w u xs) (hy : BytesR w v ys) :
    Calls Try.prog 4 #[u, v] w fun e w' => e = .returned (.bool true) ∧ Later w w' := by
  have HX := hid hx
  have HY := hid hy
  clear hx hy
  go_enter Try.func4, Try.ntmps4
  go_wp2_with fail
  refine (big_any u v xs ys w HX.out HY.out).mono ?_
  rintro e w0 ⟨⟨b, rfl, _⟩, rfl⟩
  cases b
  · go_wp2_with fail
    refine (drawFourDescent_any u xs w HX.out).mono ?_
    rintro e w1 ⟨p, rfl, hL1⟩
    have HL1 := hid hL1
    clear hL1
    obtain ⟨t, ht⟩ : ∃ t, primUp p 2000 = t := ⟨_, rfl⟩
    obtain ⟨L, hL⟩ : ∃ L, (fourAns p).getD [] = L := ⟨_, rfl⟩
    obtain ⟨z, hz⟩ : ∃ z, (startAns p).getD [] = z := ⟨_, rfl⟩
    have HI := hid (fun w0 => rows_as9 (implFourDescent_any p w0) hL (four_law ht).1)
    have HS := hid (fun w0 => rows_as9 (specFourDescent_any p w0) hL (four_law ht).1)
    have HSI := hid (fun w0 => ints_as9 (implFourStart_any p w0) hz (four_law ht).2)
    have HSS := hid (fun w0 => ints_as9 (specFourStart_any p w0) hz (four_law ht).2)
    have HTT := hid ht
    have HLL := hid hL
    have HZZ := hid hz
    have htt : (t != t) = false := by simp
    clear ht hL hz
    obtain ⟨n, hn⟩ : ∃ n, L.length = n := ⟨_, rfl⟩
    have HN := hid hn
    rw [hn] at HI HS
    clear hn
    go_wp2_with fail
    refine (HI.out _).mono ?_
    rintro e w2 ⟨a2, c2, rfl, hR2, hL2⟩
    have HR2 := hid hR2
    have HL2 := hid (HL1.out.trans hL2)
    clear hR2 hL2
    go_wp2_with fail
    refine (HS.out _).mono ?_
    rintro e w3 ⟨a3, c3, rfl, hR3, hL3⟩
    have HR3 := hid hR3
    have HR23 := hid (HR2.out.later hL3)
    have HL3 := hid (HL2.out.trans hL3)
    clear hR3 hL3
    go_wp2_with fail
    refine (HSI.out _).mono ?_
    rintro e w4 ⟨v4, rfl, hI4, hL4⟩
    have HI4 := hid hI4
    have HL34 := hid hL4
    clear hI4 hL4
    go_wp2_with fail
    refine (HSS.out _).mono ?_
    rintro e w5 ⟨v5, rfl, hI5, hL5⟩
    have HI45 := hid (HI4.out.later hL5)
    have HI5 := hid hI5
    have HR5 := hid (HR23.out.later (HL34.out.trans hL5))
    have HR35 := hid (HR3.out.later (HL34.out.trans hL5))
    have HL5 := hid (HL3.out.trans (HL34.out.trans hL5))
    clear hI5 hL5 HI HS HSI HSS HL1 HR2 HR3 HL2 HR23 HL3 HI4 HL34
    have HVS := (vSameLists_same _ _ _ w5 HR5.out.1 HR35.out.1)
    rw [HN.out] at HVS
    replace HVS := hid HVS
    go_upto_if 72 with (first
      | (go_at_call 13; refine HVS.out.mono ?_; rintro e w6 ⟨rfl, n6, rfl⟩)
      | (go_at_call 19; refine (vSame_same _ _ z _ (HI45.out.drewN _) (HI5.out.drewN _)).mono ?_; rintro e w7 ⟨rfl, n7, rfl⟩))
    have HD7 := hid (Later.drewN w5 (n6 + n7))
    have HL7 := hid (HL5.out.trans HD7.out)
    have HR7 := hid (HR5.out.later HD7.out)
    have HI7 := hid (HI45.out.later HD7.out)
    clear HVS HL5 HR5 HR35 HI45 HI5
    generalize w5.drewN (n6 + n7) = w7 at HD7 HL7 HR7 HI7 ⊢
    clear HD7
    go_wp2_with fail
    refine (drawMultiplyFour_any v ys _ (HY.out.later HL7.out)).mono ?_
    rintro e w8 ⟨m1, m2, z1, z2, rfl, hM1, hM2, hL8⟩
    obtain ⟨t2, ht2⟩ : ∃ t2, (mulFourAns z1 z2).isSome = t2 := ⟨_, rfl⟩
    obtain ⟨zc, hzc⟩ : ∃ zc, (mulFourAns z1 z2).getD [] = zc := ⟨_, rfl⟩
    have HMI := hid (ints_as9 (implMultiplyFour_any m1 z1 m2 z2 w8 hM1 hM2) hzc ht2)
    have HMS := hid (fun w0 (hL : Later w8 w0) => ints_as9 (specMultiplyFour_any m1 z1 m2 z2 w0 (hM1.later hL) (hM2.later hL)) hzc ht2)
    have HT2 := hid ht2
    have HZC := hid hzc
    have htt2 : (t2 != t2) = false := by simp
    have HM1 := hid hM1
    have HM2 := hid hM2
    have HL8 := hid hL8
    clear ht2 hzc hM1 hM2 hL8
    go_wp2_with fail
    refine HMI.out.mono ?_
    rintro e w9 ⟨v9, rfl, hI9, hL9⟩
    have HI9 := hid hI9
    have HL9 := hid hL9
    clear hI9 hL9 HMI
    go_wp2_with fail
    refine (HMS.out _ HL9.out).mono ?_
    rintro e w10 ⟨v10, rfl, hI10, hL10⟩
    have HI10 := hid hI10
    have HI9 := hid (HI9.out.later hL10)
    have HM1 := hid (HM1.out.later (HL9.out.trans hL10))
    have HM2 := hid (HM2.out.later (HL9.out.trans hL10))
    have HL10 := hid (HL8.out.trans (HL9.out.trans hL10))
    clear hI10 hL10 HMS HL9 HL8
    cases t2
    case' false =>
      go_upto_if 111 with (go_at_call 19; refine (vSame_same _ _ zc _ HI9.out HI10.out).mono ?_; rintro e w11 ⟨rfl, n11, rfl⟩)
    case' true =>
      obtain ⟨q1, q2, q3⟩ := mulFour_some HT2.out
      rw [HZC.out] at q3
      obtain ⟨b1, b2, l1, l2, l3, b3, e4⟩ := sq_mul4 q1 q2
      rw [← q3] at l3 b3 e4
      have HV1 := hid (fun w (h : Ints w m1 z1) => vSquares_any m1 z1 w l1 (fun z hz => ⟨by have := b1 z hz; omega, by have := b1 z hz; omega⟩) h)
      have HV2 := hid (fun w (h : Ints w m2 z2) => vSquares_any m2 z2 w l2 (fun z hz => ⟨by have := b2 z hz; omega, by have := b2 z hz; omega⟩) h)
      have HV3 := hid (fun w (h : Ints w v9 zc) => vSquares_any v9 zc w l3 b3 h)
      have hs1 := sqTo_in l1 b1
      have hs2 := sqTo_in l2 b2
      obtain ⟨s1, hs1e⟩ : ∃ s, sqTo z1 4 = s := ⟨_, rfl⟩
      obtain ⟨s2, hs2e⟩ : ∃ s, sqTo z2 4 = s := ⟨_, rfl⟩
      obtain ⟨s3, hs3e⟩ : ∃ s, sqTo zc 4 = s := ⟨_, rfl⟩
      rw [hs1e] at HV1 e4 hs1
      rw [hs2e] at HV2 e4 hs2
      rw [hs3e] at HV3 e4
      subst e4
      have hmm := mulBdC (x := s1) (y := s2) (B := 400000000) (C := 400000000) (by omega) (by omega)
      clear q1 q2 q3 b1 b2 b3 l1 l2 l3 hs1e hs2e hs3e hs1 hs2
      have HMM := hid hmm
      clear hmm
      go_wp2_with (go_at_call 19; refine (vSame_same _ _ zc _ HI9.out HI10.out).mono ?_; rintro e w11 ⟨rfl, n11, rfl⟩)
      refine (HV3.out _ (HI9.out.drewN _)).mono ?_; rintro e w12 ⟨rfl, rfl⟩
      go_wp2_with fail
      refine (HV1.out _ (HM1.out.drewN _)).mono ?_; rintro e w12 ⟨rfl, rfl⟩
      go_wp2_with fail
      refine (HV2.out _ (HM2.out.drewN _)).mono ?_; rintro e w12 ⟨rfl, rfl⟩
      have hmm := HMM.out
      go_upto_if 111 with fail
      clear hmm
    all_goals
      have HD11 := hid (HL10.out.trans (Later.drewN w10 n11))
      have HL11 := hid (HL7.out.trans HD11.out)
      have HR11 := hid (HR7.out.later HD11.out)
      have HI11 := hid (HI7.out.later HD11.out)
      generalize w10.drewN n11 = w11 at HD11 HL11 HR11 HI11 ⊢
      clear HD11 HL10 HL7 HR7 HI7 HI9 HI10 HM1 HM2 HT2 HZC
      cases t
      · go_wp2_with fail
        go_ret
        exact ⟨rfl, HL11.out⟩
      · obtain ⟨hp1, hp2, A, C, M, rest, eS, eL, g1, g2, g3⟩ := four_facts HTT.out
        rw [HLL.out] at eL g1 g2 g3
        rw [HZZ.out] at eS
        have G1 := hid g1
        have G2 := hid g2
        have G3 := hid g3
        have hn1 : 1 ≤ n := by rw [← HN.out, eL]; simp
        have HCE := hid HR11.out.2
        obtain ⟨ad, p5, n5, hu0, hcell0, hcap5, hrow0⟩ := HCE.out 0 (by rw [HN.out]; omega)
        subst hu0
        have e5 : L.getD 0 [] = [A, C, 1, 0, M] := by rw [eL]; rfl
        rw [e5] at hrow0 hcell0 hcap5
        obtain ⟨_, _, e7, _, hc5⟩ := hrow0
        simp only [Value.slice.injEq] at e7
        obtain ⟨rfl, e8, rfl⟩ := e7
        obtain ⟨ad5, rfl, _⟩ := hc5 0 (by simp)
        simp only [List.length_cons, List.length_nil] at hcap5 hcell0
        have hcapI : (4 : Int) ≤ (n5 : Int) := by omega
        have hrow : Ints w11 (.slice (some ad5) 4 n5) z := by
          rw [eS]
          refine ⟨some ad5, n5, rfl, by simp, fun i hi => ?_⟩
          obtain ⟨ad6, e6, hc6⟩ := hc5 i (by simp at hi ⊢; omega)
          simp only [Option.some.injEq] at e6
          subst e6
          refine ⟨ad5, rfl, ?_⟩
          rw [hc6]
          have : i = 0 ∨ i = 1 ∨ i = 2 ∨ i = 3 := by simp at hi; omega
          rcases this with rfl | rfl | rfl | rfl <;> rfl
        have HROW := hid hrow
        replace hcell0 := (show _ = _ by simpa [Addr.add] using hcell0)
        have h0n : (0 : Int) < (n : Int) := by omega
        clear e8 g1 g2 g3 hrow hc5 eL e5 HLL HZZ HTT
        go_wp2_with fail
        refine (vSame_same _ _ z _ HROW.out HI11.out).mono ?_
        rintro e wv ⟨rfl, nv, rfl⟩
        have HLv := hid (HL11.out.trans (Later.drewN w11 nv))
        have HRv := hid (HR11.out.later (Later.drewN w11 nv))
        generalize w11.drewN nv = wv at HLv HRv ⊢
        obtain ⟨N, hN⟩ : ∃ N : Nat, n = N + 1 := ⟨n - 1, by omega⟩
        have HNN := hid hN
        have hnb : (n : Int) ≤ 9223372036854775807 := by
          obtain ⟨_, _, e9, hl9, _⟩ := HRv.out.1
          have := HN.out; omega
        clear hcell0 hcapI hcap5 HROW HCE HR11 HI11 HL11 hn1 hN
        go_wp2_with fail
        go_loopw [123] (fun i wr => ∃ k : Nat, k ≤ n ∧ i = .int .i64 k ∧ Later wv wr) (fun i _ => n - (intOf i).toNat)
        case atStart => exact ⟨0, Nat.zero_le _, rfl, Later.refl _⟩
        case round =>
          obtain ⟨k, hk, rfl, hLr⟩ := hrel
          have HLr := hid hLr
          by_cases hlt : k < n
          · have hltI : (k : Int) < (n : Int) := by omega
            have hkL : k < L.length := by rw [HN.out]; exact hlt
            obtain ⟨q, K, es, hD4, hK1⟩ := G1.out (L.getD k []) (by rw [List.getD_eq_getElem?_getD, List.getElem?_eq_getElem hkL]; exact List.getElem_mem hkL)
            obtain ⟨ad', p6, n6, hu6, hcell6, hcap6, hrow6⟩ := (HRv.out.later hLr).2 k hkL
            simp only [Option.some.injEq] at hu6
            subst hu6
            have hK4 : at4 (L.getD k []) = K := by rw [es]; rfl
            have hg3 := G3.out k hkL
            rw [hK4, HN.out] at hg3
            rw [es] at hcell6 hcap6 hrow6
            obtain ⟨_, _, e7, _, hc6⟩ := hrow6
            simp only [Value.slice.injEq] at e7
            obtain ⟨rfl, _, rfl⟩ := e7
            obtain ⟨ad6, rfl, _⟩ := hc6 0 (by simp)
            simp only [List.length_cons, List.length_nil] at hcap6 hcell6
            obtain ⟨ad7, e7, hm4⟩ := hc6 4 (by simp)
            simp only [Option.some.injEq] at e7
            subst e7
            have hcapI : (4 : Int) ≤ (n6 : Int) := by omega
            obtain ⟨hm0, ba, bb, bc, bd⟩ := hD4.le (by omega)
            have a0 := hD4.a0
            have b0 := hD4.b0
            have c0 := hD4.c0
            have d0 := hD4.d0
            have hrow : Ints wr (.slice (some ad6) 4 n6) [q.a, q.b, q.c, q.d] := by
              refine ⟨some ad6, n6, rfl, by simp, fun i hi => ?_⟩
              obtain ⟨ad7, e6, hc7⟩ := hc6 i (by simp at hi ⊢; omega)
              simp only [Option.some.injEq] at e6
              subst e6
              refine ⟨ad6, rfl, ?_⟩
              rw [hc7]
              have : i = 0 ∨ i = 1 ∨ i = 2 ∨ i = 3 := by simp at hi; omega
              rcases this with rfl | rfl | rfl | rfl <;> rfl
            have hKp : K < p := hD4.mp
            obtain ⟨S, hS⟩ : ∃ S, K * p = S := ⟨_, rfl⟩
            have hsq : sqTo [q.a, q.b, q.c, q.d] 4 = S := by rw [sqTo_4, ← hS]; exact hD4.eq
            have hSb := mulBdC (x := K) (y := p) (B := 2000) (C := 2000) (by omega) (by omega)
            rw [hS] at hSb
            have HVQ := hid (vSquares_any _ [q.a, q.b, q.c, q.d] wr rfl (by simp; omega) hrow)
            rw [hsq] at HVQ
            have hSw := wrapQ (q := S) (by omega)
            have hKw := wrapQ (q := K) (by omega)
            have hSS : (S != S) = false := by simp
            replace hm4 : wr.cell? ⟨ad6.block, ad6.off + 4, none⟩ = some (.int .i64 K) := by simpa [Addr.add] using hm4
            have hNI : (n : Int) - 1 = (N : Int) := by have := HNN.out; omega
            have hNw := wrapQ (q := (N : Int)) (by omega)
            have hN := HNN.out
            obtain ⟨b, hb1, hb2⟩ : ∃ b : Bool, (K == 1) = b ∧ ((k : Int) == (N : Int)) = b := by
              by_cases h : K = 1
              · refine ⟨true, by simp [h], ?_⟩
                have := hg3.1 h
                rw [show k = N by omega]; simp
              · refine ⟨false, by simp [h], ?_⟩
                have : ¬ k = N := fun e => h (hg3.2 (by omega))
                simp; omega
            have hbb : (!b == b) = false := by cases b <;> rfl
            clear hN hrow hc6 es hD4 hg3 hsq hLr ba bb bc bd a0 b0 c0 d0
            rcases Nat.eq_zero_or_pos k with hkz | hkz
            · clear hK4
              subst hkz
              replace hcell6 := (show _ = _ by simpa [Addr.add] using hcell6)
              replace hb2 : ((0 : Int) == (N : Int)) = b := hb2
              go_wp2_with fail
              refine HVQ.out.mono ?_
              rintro e w' ⟨rfl, rfl⟩
              go_wp2_with fail
              go_roundw
              case rel => exact ⟨1, hlt, by go_num, HLr.out⟩
              case measure => simp [intOf]; omega
            · obtain ⟨j, hj⟩ : ∃ j, k = j + 1 := ⟨k - 1, by omega⟩
              have hjL : j < L.length := by omega
              have hg2 := G2.out j (by omega)
              rw [← hj, hK4] at hg2
              obtain ⟨q', K', es', _, _⟩ := G1.out (L.getD j []) (by rw [List.getD_eq_getElem?_getD, List.getElem?_eq_getElem hjL]; exact List.getElem_mem hjL)
              have hK4' : at4 (L.getD j []) = K' := by rw [es']; rfl
              rw [hK4'] at hg2
              obtain ⟨ad8, p8, n8, hu8, hcell8, hcap8, hrow8⟩ := (show R9 wr _ _ _ from HRv.out.later HLr.out).2 j hjL
              simp only [Option.some.injEq] at hu8
              subst hu8
              rw [es'] at hcell8 hcap8 hrow8
              obtain ⟨_, _, e7, _, hc8⟩ := hrow8
              simp only [Value.slice.injEq] at e7
              obtain ⟨rfl, _, rfl⟩ := e7
              obtain ⟨ad9, rfl, hm5⟩ := hc8 4 (by simp)
              simp only [List.length_cons, List.length_nil] at hcell8
              replace hm5 : wr.cell? ⟨ad9.block, ad9.off + 4, none⟩ = some (.int .i64 K') := by simpa [Addr.add] using hm5
              have hjI : (j : Int) < (n : Int) := by omega
              have hk1 : (k : Int) - 1 = (j : Int) := by omega
              have hk0 : (0 : Int) < (k : Int) := by omega
              have hjw := wrapQ (q := (j : Int)) (by omega)
              have hge : ¬ K' ≤ K := by omega
              clear hc8 hcap8 es' hg2 hj hK4 hK4'
              go_wp2_with fail
              refine HVQ.out.mono ?_
              rintro e w' ⟨rfl, rfl⟩
              go_wp2_with fail
              go_roundw
              case rel => exact ⟨k + 1, hlt, by go_num, HLr.out⟩
              case measure => simp [intOf]; omega
          · obtain rfl : k = n := by omega
            go_wp2_with fail
            go_ret
            exact ⟨rfl, HLv.out.trans HLr.out⟩
  · go_wp2_with fail
    go_ret
    exact ⟨rfl, Later.refl _⟩
end Go.Proofs.Ytofmmegpadojlaa
