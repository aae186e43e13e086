/- The walk of the law FnFallingQuads. -/
import Derived.Test.YtoaopmafokoaoabCuQef
import Derived.Test.YtoaopmafokoaoabAsD
import Derived.Test.YtoaopmafokoaoabQdOPL
import Derived.Test.YtoaopmafokoaoabQdM
import Derived.Test.YtoaopmafokoaoabQdN
import Derived.Test.YtoaopmafokoaoabQdW
import Derived.Test.YtoaopmafokoaoabQdH
import Derived.Test.YtoaopmafokoaoabQdE
import Derived.Test.YtoaopmafokoaoabFoAp
namespace Go.Proofs.Ytoaopmafokoaoab
open Go.RowKit

theorem drewLater {fn : FuncId} {args : Array Value} {w base : World} {r : Ending} (h : Calls Try.prog fn args w fun e w' => e = r ∧ ∃ n, w' = w.drewN n) (hb : Later base w) : Calls Try.prog fn args w fun e w' => e = r ∧ Later base w' :=
  h.mono fun e w' ⟨he, n, hw⟩ => ⟨he, by rw [hw]; exact hb.trans (Later.drewN _ _)⟩
theorem Later.grownG {base w w' : World} {ob : Option Nat} (h : Later base w) (hG : w.grownBy w' ob) (hb : ∀ b, ob = some b → base.heap.size ≤ b) : Later base w' :=
  h.grown hG h.size hb
theorem drop_revG {U : List Int} {k : Nat} (h : k < U.length) : (U.drop (k + 1)).reverse ++ [U.getD k 0] = (U.drop k).reverse := by
  rw [List.drop_eq_getElem_cons h, List.reverse_cons, getD_at U k h]
theorem swap_quad {zs : List Int} {i : Int} {S : List Int} (h : swapAns zs i = some S) : apB zs = true ∧ apB S = true := by
  rcases swap_law zs i with h1 | ⟨S', h1, h2, h3, _⟩
  · rw [h] at h1; cases h1
  · rw [h] at h1; simp only [Option.some.injEq] at h1; subst h1; exact ⟨h2, h3⟩
set_option maxRecDepth 100000 in
set_option maxHeartbeats 8000000 in
theorem lawFallingQuads_walk (u v : Value) (xs ys : List Int) (w : World) (hx : BytesR w u xs) (hy : BytesR w v ys) :
    Calls Try.prog 3 #[u, v] w fun e w' => e = .returned (.bool true) ∧ Later w w' := by
  have HX := hid hx
  have HY := hid hy
  clear hx hy
  go_enter Try.func3, Try.ntmps3
  go_wp2_with fail
  refine (big_any u v xs ys w HX.out HY.out).mono ?_
  rintro e w0 ⟨⟨b, rfl, _⟩, rfl⟩
  cases b
  · go_wp2_with fail
    refine (drawDownPath_any u xs w HX.out).mono ?_
    rintro e w1 ⟨u1, zs, rfl, hO, hlen, hL1⟩
    obtain ⟨p1, c1, rfl, hcap⟩ := hO.shape
    have HI := hid hO.ints
    have HL1 := hid hL1
    clear hO hL1 hcap
    obtain ⟨o1, ho1⟩ : ∃ o, qwayAns zs = o := ⟨_, rfl⟩
    obtain ⟨o2, ho2⟩ : ∃ o, qwordAns zs = o := ⟨_, rfl⟩
    obtain ⟨o3, ho3⟩ : ∃ o, rootQAns zs = o := ⟨_, rfl⟩
    obtain ⟨o4, ho4⟩ : ∃ o, downSwapAns zs = o := ⟨_, rfl⟩
    have hlaw := falling_law zs
    rw [ho1, ho2, ho3, ho4] at hlaw
    obtain ⟨t, ht1⟩ : ∃ t, o1.isSome = t := ⟨_, rfl⟩
    have ht23 : o2.isSome = t ∧ o3.isSome = t := by
      rw [← ht1]
      rcases hlaw with ⟨rfl, rfl, rfl⟩ | ⟨L, U, E, rfl, rfl, rfl, _⟩ <;> exact ⟨rfl, rfl⟩
    obtain ⟨ht2, ht3⟩ := ht23
    obtain ⟨f, hf⟩ : ∃ t, o4.isSome = t := ⟨_, rfl⟩
    obtain ⟨x4, hx4⟩ : ∃ r, o4.getD 0 = r := ⟨_, rfl⟩
    obtain ⟨L, hL⟩ : ∃ r, o1.getD [] = r := ⟨_, rfl⟩
    obtain ⟨U, hU⟩ : ∃ r, o2.getD [] = r := ⟨_, rfl⟩
    obtain ⟨R, hR⟩ : ∃ r, o3.getD [] = r := ⟨_, rfl⟩
    obtain ⟨N, hN⟩ : ∃ N, zs.length = N := ⟨_, rfl⟩
    obtain ⟨n, hn⟩ : ∃ N, L.length = N := ⟨_, rfl⟩
    obtain ⟨m, hm⟩ : ∃ N, U.length = N := ⟨_, rfl⟩
    obtain ⟨r, hr⟩ : ∃ N, R.length = N := ⟨_, rfl⟩
    have HA := hid (fun w0 (h : Later w1 w0) => rows_asG (by have h := implDownPath_any _ zs w0 (HI.out.later h); rw [ho1] at h; exact h) hL ht1)
    have HB := hid (fun w0 (h : Later w1 w0) => rows_asG (by have h := specDownPath_any _ zs w0 (HI.out.later h); rw [ho1] at h; exact h) hL ht1)
    have HC := hid (fun w0 (h : Later w1 w0) => ints_asG (by have h := implDownWord_any _ zs w0 (HI.out.later h); rw [ho2] at h; exact h) hU ht2)
    have HD := hid (fun w0 (h : Later w1 w0) => ints_asG (by have h := specDownWord_any _ zs w0 (HI.out.later h); rw [ho2] at h; exact h) hU ht2)
    have HE := hid (fun w0 (h : Later w1 w0) => ints_asG (by have h := implRootQuad_any _ zs w0 (HI.out.later h); rw [ho3] at h; exact h) hR ht3)
    have HF := hid (fun w0 (h : Later w1 w0) => ints_asG (by have h := specRootQuad_any _ zs w0 (HI.out.later h); rw [ho3] at h; exact h) hR ht3)
    have HG := hid (fun w0 (h : Later w1 w0) => num_as9 (by have h := implDownSwap_any _ zs w0 (HI.out.later h); rw [ho4] at h; exact h) hx4 hf)
    have HH := hid (fun w0 (h : Later w1 w0) => num_as9 (by have h := specDownSwap_any _ zs w0 (HI.out.later h); rw [ho4] at h; exact h) hx4 hf)
    rw [hN] at HI HA HB HC HD HE HF HG HH ⊢
    rw [hn] at HA HB
    rw [hm] at HC HD
    rw [hr] at HE HF
    have HFACT := hid (show t = true → apB zs = true ∧ n ≤ 200 ∧ n = m + 1 ∧ L.getD 0 [] = zs ∧ lastQ (L.getD m []) = true ∧ (∀ j, j < n → apB (L.getD j []) = true) ∧
        (∀ j, j < m → swapAns (L.getD j []) (U.getD j 0) = some (L.getD (j + 1) []) ∧ (L.getD (j + 1) []).sum < (L.getD j []).sum) ∧ followAns zs U = some (L.getD m []) ∧ followAns (L.getD m []) U.reverse = some zs ∧ f = decide (0 < m) ∧ (0 < m → U.getD 0 0 = x4) by
      intro h
      rw [← ht1] at h
      rcases hlaw with ⟨h1, _⟩ | ⟨L', U', E, h1, h2, h3, g1, g2, g3, g4, g5, g6, g7, g8, g9, g10, g11⟩
      · rw [h1] at h; cases h
      · rw [h1] at hL
        rw [h2] at hU
        simp only [Option.getD_some] at hL hU
        subst hL
        subst hU
        rw [hn] at g2 g3 g7
        rw [hm] at g3 g5 g8 g11
        rw [← g5] at g9 g10 g6
        refine ⟨g1, g2, g3, g4, g6, g7, g8, g9, g10, ?_, fun h0 => ?_⟩
        · rw [← hf, g11]; by_cases h0 : 0 < m <;> simp [h0]
        · rw [← hx4, g11, if_pos h0]; rfl)
    have HN := hid hN
    have HNn := hid hn
    have HM := hid hm
    have h1 : (t != t) = false := by simp
    have h2 : (f != f) = false := by simp
    have h3 : (x4 != x4) = false := by simp
    clear ho1 ho2 ho3 ho4 hlaw ht1 ht2 ht3 hf hx4 hL hU hR hN hn hm hr
    go_wp2_with fail
    refine (HA.out _ (Later.refl _)).mono ?_
    rintro e w2 ⟨a2, c2, rfl, hr2, hL2⟩
    have HR2 := hid hr2
    have HL2 := hid hL2
    clear hr2 hL2
    go_wp2_with fail
    refine (HB.out _ HL2.out).mono ?_
    rintro e w3 ⟨a3, c3, rfl, hr3, hL3⟩
    have HR3 := hid hr3
    have HL3 := hid hL3
    clear hr3 hL3
    go_wp2_with fail
    refine (HC.out _ (HL2.out.trans HL3.out)).mono ?_
    rintro e w4 ⟨a4, c4, rfl, hi4, _, hL4⟩
    have HI4 := hid hi4
    have HL4 := hid hL4
    clear hi4 hL4
    go_wp2_with fail
    refine (HD.out _ (HL2.out.trans (HL3.out.trans HL4.out))).mono ?_
    rintro e w5 ⟨a5, c5, rfl, hi5, _, hL5⟩
    have HI5 := hid hi5
    have HL5 := hid hL5
    clear hi5 hL5
    go_wp2_with fail
    refine (HE.out _ (HL2.out.trans (HL3.out.trans (HL4.out.trans HL5.out)))).mono ?_
    rintro e w6 ⟨a6, c6, rfl, hi6, _, hL6⟩
    have HI6 := hid hi6
    have HL6 := hid hL6
    clear hi6 hL6
    go_wp2_with fail
    refine (HF.out _ (HL2.out.trans (HL3.out.trans (HL4.out.trans (HL5.out.trans HL6.out))))).mono ?_
    rintro e w7 ⟨a7, c7, rfl, hi7, _, hL7⟩
    have HI7 := hid hi7
    have HL7 := hid hL7
    clear hi7 hL7
    go_wp2_with fail
    refine (HG.out _ (HL2.out.trans (HL3.out.trans (HL4.out.trans (HL5.out.trans (HL6.out.trans HL7.out)))))).mono ?_
    rintro e w8 ⟨rfl, hL8⟩
    have HL8 := hid hL8
    clear hL8
    go_wp2_with fail
    refine (HH.out _ (HL2.out.trans (HL3.out.trans (HL4.out.trans (HL5.out.trans (HL6.out.trans (HL7.out.trans HL8.out))))))).mono ?_
    rintro e w9 ⟨rfl, hL9⟩
    have HL9 := hid hL9
    have H79 := hid (HL8.out.trans hL9)
    have H59 := hid (HL6.out.trans (HL7.out.trans H79.out))
    have H39 := hid (HL4.out.trans (HL5.out.trans H59.out))
    have HLA := hid (HL2.out.trans (HL3.out.trans H39.out))
    have HR2 := hid (HR2.out.later (HL3.out.trans H39.out))
    have HI4 := hid (HI4.out.later (HL5.out.trans H59.out))
    have HV1 := hid (dLists_same (.slice a2 n c2) (.slice a3 n c3) L w9 (by have h := HR2.out.1; rw [HNn.out] at h; exact h) (by have h := (HR3.out.later H39.out).1; rw [HNn.out] at h; exact h))
    have HV2 := hid (fun w' (h : Later w9 w') => dSame_same (.slice a4 m c4) (.slice a5 m c5) U w' (HI4.out.later h) (HI5.out.later (H59.out.trans h)))
    have HV3 := hid (fun w' (h : Later w9 w') => dSame_same (.slice a6 r c6) (.slice a7 r c7) R w' (HI6.out.later (HL7.out.trans (H79.out.trans h))) (HI7.out.later (H79.out.trans h)))
    clear hL9 HA HB HC HD HE HF HG HH HR3 HI5 HI6 HI7 HL2 HL3 HL4 HL5 HL6 HL7 HL8 HL9
    go_wp2_with fail
    refine (drewLater HV1.out (Later.refl _)).mono ?_
    rintro e w10 ⟨rfl, hL10⟩
    go_wp2_with fail
    refine (drewLater (HV2.out _ hL10) hL10).mono ?_
    rintro e w11 ⟨rfl, hL11⟩
    go_wp2_with fail
    refine (drewLater (HV3.out _ hL11) hL11).mono ?_
    rintro e wc ⟨rfl, hLc⟩
    clear hL10 hL11
    have HR2 := hid (HR2.out.later hLc)
    have HI4 := hid (HI4.out.later hLc)
    have HLA := hid (HLA.out.trans hLc)
    have HIc := hid (HI.out.later HLA.out)
    clear hLc HV1 HV2 HV3 h1 h2 h3 HI
    go_upto_if 150 with fail
    go_cut [] (fun wx => Later wc wx)
    case first =>
      as_aux_lemma =>
      cases t
      · go_wp2_with fail
        go_meet
        case rel => exact Later.refl _
      · obtain ⟨hg, hn200, hnm, hL0, hlast, hall, hstep, hfol, hback, hff, hx4⟩ := HFACT.out rfl
        have HALL := hid hall
        have HSTEP := hid hstep
        have HFOL := hid hfol
        have HBACK := hid hback
        have HLAST := hid hlast
        have hw1 : IntKind.i64.wrap ((n : Int) - 1) = (m : Int) := by rw [wrapQ (by omega)]; omega
        have hn0 : (0 : Int) < (n : Int) := by omega
        obtain ⟨ad, r0, q0, e1, hc0, _, hi0⟩ := HR2.out.2 0 (by rw [HNn.out]; omega)
        subst e1
        rw [hL0, HN.out] at hc0 hi0
        rw [show ad.add 0 = ad by simp [Addr.add]] at hc0
        have HV1 := hid (dSame_same (.slice r0 N q0) (.slice p1 N c1) zs wc hi0 HIc.out)
        clear hg hL0 hlast hall hstep hfol hback hi0
        go_upto_region 15 with fail
        go_cut [181] (fun s wx => s = .bool false ∧ Later wc wx)
        case first =>
          as_aux_lemma =>
          by_cases hm0 : 0 < m
          · obtain ⟨_, _, e0, _, hcs⟩ := HI4.out
            simp only [Value.slice.injEq] at e0
            obtain ⟨rfl, hl', rfl⟩ := e0
            obtain ⟨ud, rfl, hcu⟩ := hcs 0 (by rw [HM.out]; exact hm0)
            rw [show ud.add 0 = ud by simp [Addr.add], hx4 hm0] at hcu
            have hfd : f = true := by rw [hff]; exact decide_eq_true hm0
            have hmI : (0 : Int) < (m : Int) := by omega
            have hdm : decide (0 < m) = true := decide_eq_true hm0
            have hxx : (x4 != x4) = false := by simp
            subst hfd
            clear hff hx4 hcs hl' hnm
            go_wp2_with fail
            refine HV1.out.mono ?_
            rintro e w10 ⟨rfl, n10, rfl⟩
            replace hcu := (Later.drewN wc n10).cell hcu
            go_wp2_with fail
            go_meet
            case rel => exact ⟨rfl, Later.drewN _ _⟩
          · have hm00 : m = 0 := by omega
            have hfd : f = false := by rw [hff]; exact decide_eq_false hm0
            subst hm00
            subst hfd
            clear hff hx4 hnm hm0
            go_wp2_with fail
            refine HV1.out.mono ?_
            rintro e w10 ⟨rfl, n10, rfl⟩
            go_wp2_with fail
            go_meet
            case rel => exact ⟨rfl, Later.drewN _ _⟩
        case rest =>
        as_aux_lemma =>
        obtain ⟨rfl, hLc⟩ := hcut
        have HR2 := hid (HR2.out.later hLc)
        have HI4 := hid (HI4.out.later hLc)
        have HIc := hid (HIc.out.later hLc)
        have HLx := hid hLc
        have HNM := hid hnm
        clear hLc HV1 hc0 hnm hff hx4
        go_wp2_with fail
        go_loopw [22] (fun i wr => ∃ k : Nat, 1 ≤ k ∧ k ≤ n ∧ i = .int .i64 k ∧ Later wc wr) (fun i _ => n - (intOf i).toNat)
        case atStart => exact ⟨1, Nat.le_refl _, by have := HNM.out; omega, rfl, Later.refl _⟩
        case round =>
          obtain ⟨k, hk1, hk, rfl, hLr⟩ := hrel
          have HLr := hid hLr
          clear hLr
          by_cases hlt : k < n
          · as_aux_lemma =>
            obtain ⟨i, hi⟩ : ∃ i, k = i + 1 := ⟨k - 1, by omega⟩
            have hwi : IntKind.i64.wrap ((k : Int) - 1) = (i : Int) := by rw [wrapQ (by omega)]; omega
            have hiI : (i : Int) < (n : Int) := by omega
            have himI : (i : Int) < (m : Int) := by have := HNM.out; omega
            have hi0 : (0 : Int) ≤ (i : Int) := by omega
            have hltI : (k : Int) < (n : Int) := by omega
            have hk0 : (0 : Int) ≤ (k : Int) := by omega
            obtain ⟨hst, hsum⟩ := HSTEP.out i (by omega)
            have hgi := HALL.out i (by omega)
            have hgk := HALL.out k hlt
            obtain ⟨ad', ri, qi, e1, hci, _, hii⟩ := HR2.out.2 i (by rw [HNn.out]; omega)
            simp only [Option.some.injEq] at e1
            subst e1
            obtain ⟨ad', rk, qk, e1, hck, _, hik⟩ := HR2.out.2 k (by rw [HNn.out]; omega)
            simp only [Option.some.injEq] at e1
            subst e1
            obtain ⟨_, _, e0, _, hcs⟩ := HI4.out
            simp only [Value.slice.injEq] at e0
            obtain ⟨rfl, hl', rfl⟩ := e0
            obtain ⟨ud, rfl, hcu⟩ := hcs i (by rw [HM.out]; omega)
            rw [← hi] at hst hsum
            obtain ⟨P, hP⟩ : ∃ P, L.getD i [] = P := ⟨_, rfl⟩
            obtain ⟨S, hS⟩ : ∃ P, L.getD k [] = P := ⟨_, rfl⟩
            obtain ⟨X, hX⟩ : ∃ P, U.getD i 0 = P := ⟨_, rfl⟩
            rw [hP] at hst hsum hgi hci hii
            rw [hS] at hst hsum hgk hck hik
            rw [hX] at hst hcu
            obtain ⟨lP, hlP⟩ : ∃ l, P.length = l := ⟨_, rfl⟩
            obtain ⟨lS, hlS⟩ : ∃ l, S.length = l := ⟨_, rfl⟩
            have hP4 : P.length ≤ 4 := by rw [apB_hlen hgi]; omega
            have hS4 : S.length ≤ 4 := by rw [apB_hlen hgk]; omega
            rw [hlP] at hci hii
            rw [hlS] at hck hik
            have HQ := hid (fun w' (h : Later wr w') => ints_asG (o := some S) (z := S) (t := true) (by have h := implSwapAt_any (.slice ri lP qi) P X w' (hii.later (HLr.out.trans h)); rw [hst] at h; exact h) rfl rfl)
            rw [hlS] at HQ
            have kci := HLr.out.cell hci
            have kck := HLr.out.cell hck
            have kcu := HLr.out.cell hcu
            have HIK := hid (hik.later HLr.out)
            have HII := hid (hii.later HLr.out)
            obtain ⟨A, hA⟩ : ∃ A, P.sum = A := ⟨_, rfl⟩
            obtain ⟨B, hB⟩ : ∃ A, S.sum = A := ⟨_, rfl⟩
            rw [hA, hB] at hsum
            have hAB : decide (A ≤ B) = false := decide_eq_false (by omega)
            have hAB' : ¬ A ≤ B := by omega
            have HS1 := hid (fun w' (h : Later wr w') => (dSumQ_any (.slice rk lS qk) S w' hS4 (apB_sumOK hgk) (HIK.out.later h)).mono fun e w'' ⟨he, hw⟩ => (⟨by rw [he, hB], by rw [← hw]; exact Later.refl _⟩ : e = Ending.returned (.int .i64 B) ∧ Later w' w''))
            have HS2 := hid (fun w' (h : Later wr w') => (dSumQ_any (.slice ri lP qi) P w' hP4 (apB_sumOK hgi) (HII.out.later h)).mono fun e w'' ⟨he, hw⟩ => (⟨by rw [he, hA], by rw [← hw]; exact Later.refl _⟩ : e = Ending.returned (.int .i64 A) ∧ Later w' w''))
            clear hst hsum hgi hgk hci hii hck hik hcs hcu hl' hP hS hX hlP hlS hP4 hS4 hA hB hi
            go_wp2_with fail
            go_region_held3 (fun w' => w'.cell? (ad.add i) = some (.slice ri lP qi) ∧ w'.cell? (ud.add i) = some (.int .i64 X)) (first | exact ⟨kci, kcu⟩ | exact ⟨ki8, ku8⟩) ((go_at_call 18; refine (HQ.out _ (Later.drew wr)).mono ?_; rintro e w8 ⟨a8, c8, rfl, hi8, _, hL8⟩; have hLq := (Later.drew wr).trans hL8; have ki8 := hLq.cell kci; have ku8 := hLq.cell kcu; have HI8 := hid hi8; have HL8 := hid hLq; clear hi8 hL8 hLq))
            have kck8 : ∀ p : LaterH w8, p.now.cell? (ad.add k) = some (.slice rk lS qk) := fun p => p.later.cell (HL8.out.cell kck)
            have kci8 : ∀ p : LaterH w8, p.now.cell? (ad.add i) = some (.slice ri lP qi) := fun p => p.later.cell (HL8.out.cell kci)
            have HD := hid (fun p : LaterH w8 => (dSame_same (.slice a8 lS c8) (.slice rk lS qk) S p.now (HI8.out.later p.later) (HIK.out.later (HL8.out.trans p.later))).mono fun e w' ⟨he, hw⟩ => (⟨he, by obtain ⟨n', hw⟩ := hw; rw [hw]; exact Later.drewN _ _⟩ : e = Ending.returned (.bool true) ∧ Later p.now w'))
            have HT1 := hid (fun p : LaterH w8 => HS1.out p.now (HL8.out.trans p.later))
            have HT2 := hid (fun p : LaterH w8 => HS2.out p.now (HL8.out.trans p.later))
            clear kck kci kcu HQ ki8 ku8
            go_wp2_with fail
            refine wp_region_laterG (by kernel_rfl) (by kernel_rfl) ?_
            repeat
              with_reducible refine wpQuiet_step (fun K hK => ?_)
              go_simp
              first
                | (with_reducible refine hK _ ?_; clear hK K)
                | (apply Exists.intro
                   refine ⟨fun _ => ?_, hK _ ?_⟩
                   (first
                     | (go_at_call 17; with_reducible exact Calls.laterH _ (HD.out _))
                     | (go_at_call 19; first | (with_reducible exact Calls.laterH _ (HT1.out _)) | (with_reducible exact Calls.laterH _ (HT2.out _))))
                   clear hK K)
            with_reducible refine wpQuiet_nil ?_
            intro w9 hw'
            obtain ⟨⟨wq, hLq⟩, hw''⟩ := hw'
            subst hw''
            have HLq := hid (HLr.out.trans (HL8.out.trans hLq))
            clear hLq kck8 kci8 HD HT1 HT2 HS1 HS2
            go_wp2_with fail
            go_roundw
            case rel => exact ⟨k + 1, by omega, hlt, by go_num, HLq.out⟩
            case measure => simp [intOf]; omega
          · as_aux_lemma =>
            have hge : ¬ (k : Int) < (n : Int) := by omega
            have hmI : (m : Int) < (n : Int) := by have := HNM.out; omega
            have hm0 : (0 : Int) ≤ (m : Int) := by omega
            obtain ⟨ad', rE, qE, e1, hcE, _, hiE⟩ := HR2.out.2 m (by rw [HNn.out]; omega)
            simp only [Option.some.injEq] at e1
            subst e1
            have hgE := HALL.out m (by omega)
            have hlE := HLAST.out
            have hfo := HFOL.out
            have hba := HBACK.out
            obtain ⟨E, hE⟩ : ∃ P, L.getD m [] = P := ⟨_, rfl⟩
            rw [hE] at hcE hiE hgE hlE hfo hba
            obtain ⟨lE, hlEn⟩ : ∃ l, E.length = l := ⟨_, rfl⟩
            rw [hlEn] at hcE hiE
            have kcE := HLr.out.cell hcE
            have HIE := hid (hiE.later HLr.out)
            have HI4 := hid (HI4.out.later HLr.out)
            have HIc := hid (HIc.out.later HLr.out)
            have HLx := hid (HLx.out.trans HLr.out)
            have HQ1 := hid (bool_as9 (o := some true) (z := true) (t := true) (by have h := implIsRootQ_any (.slice rE lE qE) E wr HIE.out; rw [show isRootAns E = some true by unfold isRootAns; rw [if_pos hgE, hlE]] at h; exact h) rfl rfl)
            have HQ2 := hid (fun w' (h : Later wr w') => ints_asG (o := some E) (z := E) (t := true) (by have h := implFollowSwaps_any (.slice p1 N c1) (.slice a4 m c4) zs U w' (HIc.out.later h) (HI4.out.later h); rw [hfo] at h; exact h) rfl rfl)
            rw [hlEn] at HQ2
            have HBA := hid hba
            clear hcE hiE hgE hlE hfo hba hE hlEn HLr HALL HSTEP HFOL HBACK HLAST
            go_wp2_with fail
            refine HQ1.out.mono ?_
            rintro e w8 ⟨rfl, hL8⟩
            have HL8 := hid hL8
            clear hL8 HQ1 kcE
            go_wp2_with fail
            refine (HQ2.out _ HL8.out).mono ?_
            rintro e w9 ⟨a9, c9, rfl, hi9, _, hL9⟩
            have HL9 := hid (HL8.out.trans hL9)
            have HV := hid (dSame_same (.slice a9 lE c9) (.slice rE lE qE) E w9 hi9 (HIE.out.later HL9.out))
            clear hi9 hL9 HL8 HQ2
            have hwm : IntKind.i64.wrap ((m : Int) - 1) = (m : Int) - 1 := wrapQ (by omega)
            go_wp2_with fail
            refine HV.out.mono ?_
            rintro e w10 ⟨rfl, n10, rfl⟩
            have HL10 := hid (HL9.out.trans (Later.drewN w9 n10))
            generalize w9.drewN n10 = W0 at HL10 ⊢
            clear HV HL9
            go_wp2_with fail
            go_loopw [30, 31] (fun b i wr => ∃ (k : Nat) (x : Int), k ≤ m ∧ x = (k : Int) - 1 ∧ i = .int .i64 x ∧ OwnInts W0.heap.size wr.heap.size wr b (U.drop k).reverse ∧ W0.heap.size ≤ wr.heap.size ∧ Later W0 wr) (fun _ i _ => (intOf i + 1).toNat)
            case atStart => exact ⟨m, (m : Int) - 1, Nat.le_refl _, rfl, rfl, by rw [List.drop_of_length_le (by rw [HM.out]; exact Nat.le_refl _)]; exact OwnInts.empty _ _ _, Nat.le_refl _, Later.refl _⟩
            case round =>
              obtain ⟨k, x, hk, hx, rfl, hO, hsz, hLr⟩ := hrel
              have HO := hid hO
              have HLr := hid hLr
              have HSZ := hid hsz
              have HXX := hid hx
              clear hO hLr hsz
              by_cases hk0 : k = 0
              · subst hk0
                obtain rfl : x = -1 := by omega
                have HOr := HO.out
                rw [List.drop_zero] at HOr
                obtain ⟨ab, cb, rfl, _⟩ := HOr.shape
                have hrl : U.reverse.length = m := by rw [List.length_reverse, HM.out]
                have HB := hid HOr.ints
                rw [hrl] at HB HO ⊢
                have HQ3 := hid (ints_asG (o := some zs) (z := zs) (t := true) (by have h := implFollowSwaps_any (.slice rE lE qE) (.slice ab m cb) E U.reverse _ (HIE.out.later (HL10.out.trans HLr.out)) HB.out; rw [HBA.out] at h; exact h) rfl rfl)
                rw [HN.out] at HQ3
                clear HOr hrl HO hx
                go_wp2_with fail
                refine HQ3.out.mono ?_
                rintro e w11 ⟨a11, c11, rfl, hi11, _, hL11⟩
                have HL11 := hid (HL10.out.trans (HLr.out.trans hL11))
                have HV := hid (dSame_same (.slice a11 N c11) (.slice p1 N c1) zs w11 hi11 (HIc.out.later HL11.out))
                clear hi11 hL11 HQ3
                go_wp2_with fail
                refine HV.out.mono ?_
                rintro e w12 ⟨rfl, n12, rfl⟩
                go_wp2_with fail
                go_meet
                case rel => exact HLx.out.trans (HL11.out.trans (Later.drewN _ _))
              · obtain ⟨j, rfl⟩ : ∃ j, k = j + 1 := ⟨k - 1, by omega⟩
                obtain rfl : x = (j : Int) := by omega
                have hjI : (j : Int) < (m : Int) := by omega
                have hj0 : (0 : Int) ≤ (j : Int) := by omega
                have hwj : IntKind.i64.wrap ((j : Int) - 1) = (j : Int) - 1 := wrapQ (by omega)
                obtain ⟨_, _, e0, _, hcs⟩ := HI4.out
                simp only [Value.slice.injEq] at e0
                obtain ⟨rfl, hl', rfl⟩ := e0
                obtain ⟨ud, rfl, hcu⟩ := hcs j (by rw [HM.out]; omega)
                obtain ⟨X, hX⟩ : ∃ P, U.getD j 0 = P := ⟨_, rfl⟩
                rw [hX] at hcu
                have kcu := HLr.out.cell (HL10.out.cell hcu)
                have HREV := hid (show (U.drop (j + 1)).reverse ++ [X] = (U.drop j).reverse by rw [← hX]; exact drop_revG (by rw [HM.out]; omega))
                have hrl : (U.drop (j + 1)).reverse.length ≤ 1000000 := by rw [List.length_reverse, List.length_drop, HM.out]; omega
                obtain ⟨Z, hZ⟩ : ∃ Z, (U.drop (j + 1)).reverse = Z := ⟨_, rfl⟩
                rw [hZ] at HO HREV hrl
                obtain ⟨ab, cb, rfl, _⟩ := HO.out.shape
                have HRL := hid hrl
                have HJ := hid (show j ≤ m by omega)
                clear hcs hcu hl' hX hZ hx hrl hk hk0
                go_wp2_with (at_builtin; refine wpList_pushG (by rfl) _ _ (by rfl) W0.heap.size _ _ (.slice ab Z.length cb) Z X (by rfl) HSZ.out HO.out HRL.out (by rfl) rfl ?_)
                intro g2 cc w8 hO8 hG8 _
                have HO8 := hid hO8
                have HL8 := hid (HLr.out.grownG hG8 HO.out.ownG)
                have HS8 := hid (Nat.le_trans HSZ.out hG8.size)
                clear hO8 hG8 kcu
                go_wp2_with fail
                go_roundw
                case rel => exact ⟨j, (j : Int) - 1, HJ.out, rfl, rfl, by rw [← HREV.out]; exact HO8.out, HS8.out, HL8.out⟩
                case measure => first | (simp [intOf]; done) | (simp [intOf]; omega)
    case rest =>
    as_aux_lemma =>
    have HLZ := hid (HL1.out.trans (HLA.out.trans hcut))
    clear hcut HR2 HI4 HIc HFACT HL1 HLA HN HNn HM
    go_wp2_with fail
    refine (drawSwapAt_any v ys _ (HY.out.later HLZ.out)).mono ?_
    rintro e w10 ⟨u2, zp, i, rfl, hO, hlen2, hL10⟩
    obtain ⟨p2, cp2, rfl, hcap⟩ := hO.shape
    have HP := hid hO.ints
    have HL10 := hid (HLZ.out.trans hL10)
    clear hO hL10 hcap HLZ
    obtain ⟨o5, ho5⟩ : ∃ o, swapAns zp i = o := ⟨_, rfl⟩
    have hlaw := swap_law zp i
    rw [ho5] at hlaw
    obtain ⟨t5, ht5⟩ : ∃ t, o5.isSome = t := ⟨_, rfl⟩
    obtain ⟨S, hS⟩ : ∃ r, o5.getD [] = r := ⟨_, rfl⟩
    obtain ⟨np, hnp⟩ : ∃ N, zp.length = N := ⟨_, rfl⟩
    obtain ⟨ns, hns⟩ : ∃ N, S.length = N := ⟨_, rfl⟩
    have HA := hid (fun w0 (h : Later w10 w0) => ints_asG (by have h := implSwapAt_any _ zp i w0 (HP.out.later h); rw [ho5] at h; exact h) hS ht5)
    have HB := hid (fun w0 (h : Later w10 w0) => ints_asG (by have h := specSwapAt_any _ zp i w0 (HP.out.later h); rw [ho5] at h; exact h) hS ht5)
    rw [hnp] at HP HA HB ⊢
    rw [hns] at HA HB
    have HFACT := hid (show t5 = true → apB zp = true ∧ apB S = true ∧ swapAns S i = some zp ∧ rootL S = rootL zp by
      intro h
      rw [← ht5] at h
      rcases hlaw with h1 | ⟨S', h1, h2, h3, h4, h5⟩
      · rw [h1] at h; cases h
      · rw [h1] at hS
        simp only [Option.getD_some] at hS
        subst hS
        exact ⟨h2, h3, h4, h5⟩)
    have HNP := hid hnp
    have h1 : (t5 != t5) = false := by simp
    clear ho5 hlaw ht5 hS hnp hns
    go_wp2_with fail
    refine (HA.out _ (Later.refl _)).mono ?_
    rintro e w11 ⟨a11, c11, rfl, hi11, _, hL11⟩
    have HI11 := hid hi11
    have HL11 := hid hL11
    clear hi11 hL11
    go_wp2_with fail
    refine (HB.out _ HL11.out).mono ?_
    rintro e w12 ⟨a12, c12, rfl, hi12, _, hL12⟩
    have HI11 := hid (HI11.out.later hL12)
    have HPc := hid (HP.out.later (HL11.out.trans hL12))
    have HL12 := hid (HL10.out.trans (HL11.out.trans hL12))
    have HV := hid (dSame_same (.slice a11 ns c11) (.slice a12 ns c12) S w12 HI11.out hi12)
    clear hi12 hL12 HA HB HL11 HL10 HP
    go_wp2_with fail
    refine (drewLater HV.out (Later.refl _)).mono ?_
    rintro e wc ⟨rfl, hLc⟩
    have HI11 := hid (HI11.out.later hLc)
    have HPc := hid (HPc.out.later hLc)
    have HL12 := hid (HL12.out.trans hLc)
    clear hLc HV h1
    go_upto_if 314 with fail
    go_cut [] (fun wx => Later wc wx)
    case first =>
      as_aux_lemma =>
      cases t5
      · go_wp2_with fail
        go_meet
        case rel => exact Later.refl _
      · obtain ⟨hgp, hgs, hbk, hrt⟩ := HFACT.out rfl
        obtain ⟨o6, ho6⟩ : ∃ o, rootQAns zp = o := ⟨_, rfl⟩
        obtain ⟨o7, ho7⟩ : ∃ o, rootQAns S = o := ⟨_, rfl⟩
        obtain ⟨t6, ht6⟩ : ∃ t, o6.isSome = t := ⟨_, rfl⟩
        obtain ⟨R6, hR6⟩ : ∃ r, o6.getD [] = r := ⟨_, rfl⟩
        obtain ⟨t7, ht7⟩ : ∃ t, o7.isSome = t := ⟨_, rfl⟩
        obtain ⟨R7, hR7⟩ : ∃ r, o7.getD [] = r := ⟨_, rfl⟩
        have hRR : t6 = true → t7 = true → R7 = R6 := by
          intro h6 h7
          rw [← ht6, ← ho6] at h6
          rw [← ht7, ← ho7] at h7
          rw [← hR6, ← hR7, ← ho6, ← ho7]
          unfold rootQAns at h6 h7 ⊢
          split at h6
          · split at h7
            · rename_i q1 q2
              rw [if_pos q1, if_pos q2, hrt]
            · cases h7
          · cases h6
        obtain ⟨r6, hr6⟩ : ∃ N, R6.length = N := ⟨_, rfl⟩
        obtain ⟨r7, hr7⟩ : ∃ N, R7.length = N := ⟨_, rfl⟩
        have HRR := hid hRR
        have HR6 := hid hr6
        have HR7 := hid hr7
        have HQ1 := hid (fun w' (h : Later wc w') => ints_asG (o := some zp) (z := zp) (t := true) (by have h := implSwapAt_any (.slice a11 ns c11) S i w' (HI11.out.later h); rw [hbk] at h; exact h) rfl rfl)
        have HQ2 := hid (fun w' (h : Later wc w') => ints_asG (by have h := implRootQuad_any (.slice p2 np cp2) zp w' (HPc.out.later h); rw [ho6] at h; exact h) hR6 ht6)
        have HQ3 := hid (fun w' (h : Later wc w') => ints_asG (by have h := implRootQuad_any (.slice a11 ns c11) S w' (HI11.out.later h); rw [ho7] at h; exact h) hR7 ht7)
        have HQ4 := hid (fun w' (h : Later wc w') => res_asG (implIsQuad_any (.slice a11 ns c11) S w' (HI11.out.later h)) hgs)
        rw [HNP.out] at HQ1
        rw [hr6] at HQ2
        rw [hr7] at HQ3
        as_aux_lemma =>
        clear hgp hgs hbk hrt ho6 ho7 ht6 hR6 ht7 hR7 hRR hr6 hr7
        go_wp2_with fail
        refine (HQ1.out _ (Later.refl _)).mono ?_
        rintro e w13 ⟨a13, c13, rfl, hi13, _, hL13⟩
        have HI13 := hid hi13
        have HL13 := hid hL13
        clear hi13 hL13
        go_wp2_with fail
        refine (HQ2.out _ HL13.out).mono ?_
        rintro e w14 ⟨a14, c14, rfl, hi14, _, hL14⟩
        have HI13 := hid (HI13.out.later hL14)
        have HI14 := hid hi14
        have HL14 := hid (HL13.out.trans hL14)
        clear hi14 hL14 HL13
        go_wp2_with fail
        refine (HQ3.out _ HL14.out).mono ?_
        rintro e w15 ⟨a15, c15, rfl, hi15, _, hL15⟩
        have HI13 := hid (HI13.out.later hL15)
        have HI14 := hid (HI14.out.later hL15)
        have HI15 := hid hi15
        have HL15 := hid (HL14.out.trans hL15)
        clear hi15 hL15 HL14 HQ1 HQ2 HQ3
        go_wp2_with fail
        refine (HQ4.out _ HL15.out).mono ?_
        rintro e w16 ⟨rfl, hL16⟩
        have HI14 := hid (HI14.out.later hL16)
        have HI15 := hid (HI15.out.later hL16)
        have HL16 := hid (HL15.out.trans hL16)
        have HV := hid (dSame_same (.slice a13 np c13) (.slice p2 np cp2) zp w16 (HI13.out.later hL16) (HPc.out.later HL16.out))
        clear hL16 HI13 HL15 HQ4
        go_wp2_with fail
        refine HV.out.mono ?_
        rintro e w17 ⟨rfl, n17, rfl⟩
        as_aux_lemma =>
        cases t6
        · as_aux_lemma =>
          go_wp2_with fail
          go_meet
          case rel => exact HL16.out.trans (Later.drewN _ _)
        · cases t7
          · as_aux_lemma =>
            go_wp2_with fail
            go_meet
            case rel => exact HL16.out.trans (Later.drewN _ _)
          · as_aux_lemma =>
            have hRe := HRR.out rfl rfl
            subst hRe
            have hrr : r6 = r7 := by rw [← HR6.out, HR7.out]
            subst hrr
            have HV2 := hid (dSame_same (.slice a14 r6 c14) (.slice a15 r6 c15) _ _ (HI14.out.later (Later.drewN w16 n17)) (HI15.out.later (Later.drewN w16 n17)))
            go_wp2_with fail
            refine HV2.out.mono ?_
            rintro e w18 ⟨rfl, n18, rfl⟩
            go_wp2_with fail
            go_meet
            case rel => exact HL16.out.trans (by first | exact Later.drewN _ _ | exact (Later.drewN _ _).trans (Later.drewN _ _))
    case rest =>
    as_aux_lemma =>
    have HLZ := hid (HL12.out.trans hcut)
    clear hcut HI11 HPc HFACT HL12
    go_wp2_with fail
    refine (drawIsRoot_any v ys _ (HY.out.later HLZ.out)).mono ?_
    rintro e w20 ⟨u3, zr, rfl, hO, hlen3, hL20⟩
    obtain ⟨p3, cp3, rfl, hcap⟩ := hO.shape
    have HP := hid hO.ints
    have HL20 := hid (HLZ.out.trans hL20)
    clear hO hL20 hcap HLZ
    obtain ⟨o8, ho8⟩ : ∃ o, isRootAns zr = o := ⟨_, rfl⟩
    obtain ⟨t8, ht8⟩ : ∃ t, o8.isSome = t := ⟨_, rfl⟩
    obtain ⟨b8, hb8⟩ : ∃ r, o8.getD false = r := ⟨_, rfl⟩
    have hgr : apB zr = t8 := by
      rw [← ht8, ← ho8]
      unfold isRootAns
      cases apB zr <;> simp
    have HFACT := hid (show b8 = true → isRootAns zr = some true ∧ apB zr = true by
      intro h
      rw [← hb8, ← ho8] at h
      unfold isRootAns at h ⊢
      cases hz : apB zr
      · rw [hz] at h; simp at h
      · rw [hz] at h
        simp only [if_true, Option.getD_some] at h
        exact ⟨by rw [h]; rfl, rfl⟩)
    obtain ⟨nr, hnr⟩ : ∃ N, zr.length = N := ⟨_, rfl⟩
    have HA := hid (fun w0 (h : Later w20 w0) => bool_as9 (by have h := implIsRootQ_any _ zr w0 (HP.out.later h); rw [ho8] at h; exact h) hb8 ht8)
    have HB := hid (fun w0 (h : Later w20 w0) => bool_as9 (by have h := specIsRootQ_any _ zr w0 (HP.out.later h); rw [ho8] at h; exact h) hb8 ht8)
    have HC := hid (fun w0 (h : Later w20 w0) => res_asG (implIsQuad_any _ zr w0 (HP.out.later h)) hgr)
    rw [hnr] at HP HA HB HC ⊢
    have h1 : (t8 != t8) = false := by simp
    have h2 : (b8 != b8) = false := by simp
    have HNR := hid hnr
    clear ho8 ht8 hb8 hgr hnr
    go_wp2_with fail
    refine (HA.out _ (Later.refl _)).mono ?_
    rintro e w21 ⟨rfl, hL21⟩
    have HL21 := hid hL21
    clear hL21
    go_wp2_with fail
    refine (HB.out _ HL21.out).mono ?_
    rintro e w22 ⟨rfl, hL22⟩
    have HL22 := hid (HL21.out.trans hL22)
    clear hL22
    go_wp2_with fail
    refine (HC.out _ HL22.out).mono ?_
    rintro e w23 ⟨rfl, hL23⟩
    have HL23 := hid (HL22.out.trans hL23)
    have HPc := hid (HP.out.later HL23.out)
    have HLA := hid (HL20.out.trans HL23.out)
    clear hL23 HL21 HL22 HL23 HL20 HP HA HB HC
    cases b8
    · go_wp2_with fail
      go_ret
      exact ⟨rfl, HLA.out⟩
    · obtain ⟨hir, hgr⟩ := HFACT.out rfl
      have HIR := hid hir
      have HGR := hid hgr
      clear hir hgr HFACT
      go_wp2_with fail
      go_loopw [51] (fun i wr => ∃ k : Nat, k ≤ 4 ∧ i = .int .i64 k ∧ Later w23 wr) (fun i _ => 4 - (intOf i).toNat)
      case atStart => exact ⟨0, Nat.zero_le _, rfl, Later.refl _⟩
      case round =>
        obtain ⟨k, hk, rfl, hLr⟩ := hrel
        have HLr := hid hLr
        clear hLr
        by_cases hlt : k < 4
        · as_aux_lemma =>
          have hltI : (k : Int) < 4 := by omega
          have hz4 : zr.length ≤ 4 := by rw [apB_hlen HGR.out]; omega
          have HPr := hid (HPc.out.later HLr.out)
          rcases rootQ_law HIR.out k hlt with hn | ⟨S, hs, hsum, hgs⟩
          · have HQ := hid (ints_asG (o := none) (z := []) (t := false) (by have h := implSwapAt_any (.slice p3 nr cp3) zr k _ HPr.out; rw [hn] at h; exact h) rfl rfl)
            clear hn
            go_wp2_with fail
            refine HQ.out.mono ?_
            rintro e w24 ⟨a24, c24, rfl, _, _, hL24⟩
            have HL24 := hid hL24
            clear hL24 HQ
            go_wp2_with fail
            go_roundw
            case rel => exact ⟨k + 1, hlt, by go_num, HLr.out.trans HL24.out⟩
            case measure => simp [intOf]; omega
          · obtain ⟨A, hA⟩ : ∃ A, zr.sum = A := ⟨_, rfl⟩
            obtain ⟨B, hB⟩ : ∃ A, S.sum = A := ⟨_, rfl⟩
            rw [hA, hB] at hsum
            have hBA : decide (B < A) = false := decide_eq_false (by omega)
            have hBA' : ¬ B < A := by omega
            have hS4 : S.length ≤ 4 := by rw [apB_hlen hgs]; omega
            obtain ⟨lS, hlS⟩ : ∃ l, S.length = l := ⟨_, rfl⟩
            have HQ := hid (ints_asG (o := some S) (z := S) (t := true) (by have h := implSwapAt_any (.slice p3 nr cp3) zr k _ HPr.out; rw [hs] at h; exact h) rfl rfl)
            have HS1 := hid (fun w' v (h : Ints w' v S) => (dSumQ_any v S w' hS4 (apB_sumOK hgs) h).mono fun e w'' ⟨he, hw⟩ => (⟨by rw [he, hB], hw⟩ : e = Ending.returned (.int .i64 B) ∧ w' = w''))
            have HS2 := hid (fun w' (h : Later w23 w') => (dSumQ_any (.slice p3 nr cp3) zr w' hz4 (apB_sumOK HGR.out) (HPc.out.later h)).mono fun e w'' ⟨he, hw⟩ => (⟨by rw [he, hA], hw⟩ : e = Ending.returned (.int .i64 A) ∧ w' = w''))
            rw [hlS] at HQ
            clear hs hsum hgs hA hB hS4 hlS
            go_wp2_with fail
            refine HQ.out.mono ?_
            rintro e w24 ⟨a24, c24, rfl, hi24, _, hL24⟩
            have HI24 := hid hi24
            have HL24 := hid (HLr.out.trans hL24)
            clear hi24 hL24 HQ
            go_wp2_with fail
            refine (HS1.out _ _ HI24.out).mono ?_
            rintro e w25 ⟨rfl, rfl⟩
            go_wp2_with fail
            refine (HS2.out _ HL24.out).mono ?_
            rintro e w26 ⟨rfl, rfl⟩
            go_wp2_with fail
            go_roundw
            case rel => exact ⟨k + 1, hlt, by go_num, HL24.out⟩
            case measure => simp [intOf]; omega
        · obtain rfl : k = 4 := by omega
          go_wp2_with fail
          go_ret
          exact ⟨rfl, HLA.out.trans HLr.out⟩
  · go_wp2_with fail
    go_ret
    exact ⟨rfl, Later.refl _⟩
end Go.Proofs.Ytoaopmafokoaoab
