/- The walk of the law FnJumpsOfHurwitz. -/
import Derived.Test.YtdahhcigphhfdadCuHv
import Derived.Test.YtdahhcigphhfdadHuQ
import Derived.Test.YtdahhcigphhfdadHuY
namespace Go.Proofs.Ytdahhcigphhfdad
open Go.RowKit

set_option maxRecDepth 100000 in
set_option maxHeartbeats 8000000 in
theorem lawJumpsOfHurwitz_walk (u v : Value) (xs ys : List Int) (w : World) (hx : BytesR w u xs) (hy : BytesR w v ys) :
    Calls Try.prog 3 #[u, v] w fun e w' => e = .returned (.bool true) ∧ Later w w' := by
  have HX := hid hx
  have HY := hid hy
  clear hx hy
  go_enter Try.func3, Try.ntmps3
  go_wp2_with fail
  refine (big_any u v xs ys w HX.out HY.out).mono ?_
  rintro e w0 ⟨⟨b, rfl, _⟩, rfl⟩
  cases b
  · go_wp2_with fail
    refine (drawJumpAt_any u xs w HX.out).mono ?_
    rintro e w1 ⟨u1, zs, α, β, i, rfl, hO, hlen, hL1⟩
    obtain ⟨p1, c1, rfl, hcap⟩ := hO.shape
    have HI := hid hO.ints
    have HIC := hid hO.intsC
    have HL1 := hid hL1
    clear hO hL1 hcap
    obtain ⟨o, ho⟩ : ∃ o, jumpAns zs α β i = o := ⟨_, rfl⟩
    obtain ⟨o2, ho2⟩ : ∃ o, othAns zs α β i = o := ⟨_, rfl⟩
    have hlaw := jumps_law ho ho2
    obtain ⟨z, hz⟩ : ∃ r, o.getD [] = r := ⟨_, rfl⟩
    obtain ⟨t, ht⟩ : ∃ t, o.isSome = t := ⟨_, rfl⟩
    obtain ⟨r, hr⟩ : ∃ r, o2.getD 0 = r := ⟨_, rfl⟩
    obtain ⟨t2, ht2⟩ : ∃ t, o2.isSome = t := ⟨_, rfl⟩
    obtain ⟨N, hN⟩ : ∃ N, zs.length = N := ⟨_, rfl⟩
    obtain ⟨M, hM⟩ : ∃ N, z.length = N := ⟨_, rfl⟩
    have HA := hid (fun w0 (h : Later w1 w0) => ints_asG (by have h := implJumpAt_any _ zs α β i w0 (HI.out.later h); rw [ho] at h; exact h) hz ht)
    have HB := hid (fun w0 (h : Later w1 w0) => ints_asG (by have h := specJumpAt_any _ zs α β i w0 (HIC.out.later h); rw [ho] at h; exact h) hz ht)
    have HC := hid (fun w0 (h : Later w1 w0) => num_as9 (by have h := implOtherRootAt_any _ zs α β i w0 (HI.out.later h); rw [ho2] at h; exact h) hr ht2)
    have HD := hid (fun w0 (h : Later w1 w0) => num_as9 (by have h := specOtherRootAt_any _ zs α β i w0 (HIC.out.later h); rw [ho2] at h; exact h) hr ht2)
    rw [hN] at HI HIC HA HB HC HD hlen ⊢
    rw [hM] at HA HB
    have h12 : t = true → t2 = true := by
      intro h
      rcases hlaw with ⟨_, h2⟩ | ⟨_, _, _, _, h2, _⟩
      · rw [← ht, h2] at h; cases h
      · rw [← ht2, h2]; rfl
    have HLAW := hid hlaw
    have HZ := hid hz
    have HT := hid ht
    have HR := hid hr
    have HT2 := hid ht2
    have HN := hid hN
    have HM := hid hM
    have H12 := hid h12
    have h1 : (t != t) = false := by simp
    have h2 : (t2 != t2) = false := by simp
    have h3 : (r != r) = false := by simp
    clear ho ho2 hlaw hz ht hr ht2 hN hM h12
    go_wp2_with fail
    refine (HA.out _ (Later.refl _)).mono ?_
    rintro e w2 ⟨a2, c2, rfl, hi2, _, hL2⟩
    have HI2 := hid hi2
    have HL2 := hid hL2
    clear hi2 hL2
    go_wp2_with fail
    refine (HB.out _ HL2.out).mono ?_
    rintro e w3 ⟨a3, c3, rfl, hi3, _, hL3⟩
    have HI23 := hid (HI2.out.later hL3)
    have HI3 := hid hi3
    have HL3 := hid (HL2.out.trans hL3)
    clear hi3 hL3 HI2 HL2
    go_wp2_with fail
    refine (HC.out _ HL3.out).mono ?_
    rintro e w4 ⟨rfl, hL4⟩
    have HI24 := hid (HI23.out.later hL4)
    have HI34 := hid (HI3.out.later hL4)
    have HL4 := hid (HL3.out.trans hL4)
    clear hL4 HI23 HI3 HL3
    go_wp2_with fail
    refine (HD.out _ HL4.out).mono ?_
    rintro e w5 ⟨rfl, hL5⟩
    have HI25 := hid (HI24.out.later hL5)
    have HV := hid (vSame_same (.slice a2 M c2) (.slice a3 M c3) z w5 HI25.out (HI34.out.later hL5))
    have HL5 := hid (HL4.out.trans hL5)
    clear hL5 HI24 HI34 HL4 HA HB HC HD
    go_upto_region 8 with fail
    go_cut [89] (fun s wx => s = .bool false ∧ Later w5 wx)
    case first =>
      cases t
      · go_wp2_with fail
        refine HV.out.mono ?_
        rintro e w6 ⟨rfl, n6, rfl⟩
        go_wp2_with fail
        go_meet
        case rel => exact ⟨rfl, Later.drewN _ _⟩
      · obtain rfl : t2 = true := H12.out rfl
        go_wp2_with fail
        refine HV.out.mono ?_
        rintro e w6 ⟨rfl, n6, rfl⟩
        go_wp2_with fail
        go_meet
        case rel => exact ⟨rfl, Later.drewN _ _⟩
    case rest =>
    obtain ⟨rfl, hLc⟩ := hcut
    have HI6 := hid (HI25.out.later hLc)
    have HL6 := hid (HL5.out.trans hLc)
    clear hLc HI25 HL5 HV h1 h2 h3
    go_upto_if 90 with fail
    go_cut [] (fun wx => Later wc wx)
    case first =>
      cases t2
      · go_wp2_with fail
        go_meet
        case rel => exact Later.refl _
      · as_aux_lemma =>
        rcases HLAW.out with ⟨h1, _⟩ | ⟨k, hik, hk, hS, ho2, ho⟩
        · have := HT2.out; rw [h1] at this; cases this
        subst hik
        have hr : r = othL α zs k := by rw [← HR.out, ho2]; rfl
        have hmul := oth_mul hS hk
        rw [← hr] at hmul
        have hb := hS.hb
        have h5 := hS.in5
        have hq := hS.in5.sq4 hS.hl
        have hzk := h5 (zs.getD k 0) (by rw [getD_at zs k hk]; exact List.getElem_mem hk)
        have HSQ := hid (fun w0 (h : Later w1 w0) => vSquaresH_any _ zs w0 (by rw [HN.out]; exact hlen) h5 (HI.out.later h))
        rw [HN.out] at hk
        have htw : t = within 1 100000 r := by
          rw [← HT.out, ho, hr]
          unfold jumpL
          cases hw : within 1 100000 (othL α zs k)
          · rw [if_neg (by simp)]; rfl
          · rw [if_pos rfl]; rfl
        obtain ⟨_, _, e0, _, hcs⟩ := HI.out
        simp only [Value.slice.injEq] at e0
        obtain ⟨rfl, hqn, rfl⟩ := e0
        clear hqn
        obtain ⟨ad, rfl, hck⟩ := hcs k (by rw [HN.out]; exact hk)
        obtain ⟨x, hx⟩ : ∃ x, zs.getD k 0 = x := ⟨_, rfl⟩
        rw [hx] at hmul hzk hck
        obtain ⟨X, hX⟩ : ∃ X, x * x = X := ⟨_, rfl⟩
        obtain ⟨S, hSe⟩ : ∃ X, sqs zs = X := ⟨_, rfl⟩
        obtain ⟨R, hRe⟩ : ∃ X, r * x = X := ⟨_, rfl⟩
        rw [hX, hSe, hRe] at hmul
        rw [hSe] at HSQ hq
        have hXb : 0 ≤ X ∧ X ≤ 100000 * 100000 := by rw [← hX]; exact ⟨Int.mul_nonneg (by omega) (by omega), Int.mul_le_mul hzk.2 hzk.2 (by omega) (by omega)⟩
        have hXw := wrapQ (q := X) (by omega)
        have hSXw := wrapQ (q := S - X) (by omega)
        have hSXb := wrapQ (q := S - X - β) (by omega)
        have hRw := wrapQ (q := S - X - β) (by omega)
        have hkI : (k : Int) < (N : Int) := by omega
        have hk0 : (0 : Int) ≤ (k : Int) := by omega
        have kc := HL6.out.cell hck
        have HMUL := hid hmul
        have hRR : (R != S - X - β) = false := by simp [hmul]
        have hRw2 := wrapQ (q := R) (by omega)
        have HSQ6 := hid (fun m => (HSQ.out (wc.drewN m) (HL6.out.trans (Later.drewN _ _))).mono fun e w' ⟨he, hw⟩ => (⟨he, hw.symm⟩ : e = Ending.returned (.int .i64 S) ∧ w' = wc.drewN m))
        have HTW := hid htw
        clear hmul hcs hck hx hSe hb h5 hq hzk hS ho2 ho hr hXb HSQ htw
        go_wp2_with fail
        go_quiet ((go_at_call 13; exact Calls.quiet_of_same (HSQ6.out _)))
        replace kc := (Later.drewN wc nq).cell kc
        have HLQ := hid (Later.drewN wc nq)
        generalize wc.drewN nq = wd at kc HLQ ⊢
        cases hw : within 1 100000 r
        · obtain rfl : t = false := by rw [HTW.out, hw]
          by_cases h1 : 1 ≤ r
          · have h2 : ¬ r ≤ 100000 := by intro h2; simp [within, h1, h2] at hw
            clear hw
            go_wp2_with fail
            go_meet
            case rel => exact HLQ.out
          · clear hw
            go_wp2_with fail
            go_meet
            case rel => exact HLQ.out
        · obtain rfl : t = true := by rw [HTW.out, hw]
          obtain ⟨h1, h2⟩ := within5.1 hw
          clear hw
          go_wp2_with fail
          go_meet
          case rel => exact HLQ.out
    case rest =>
    as_aux_lemma =>
    have HI7 := hid (HI6.out.later hcut)
    have HL7 := hid (HL6.out.trans hcut)
    clear hcut HI6 HL6
    cases t
    · go_wp2_with fail
      go_ret
      exact ⟨rfl, HL1.out.trans HL7.out⟩
    · obtain ⟨q, hq⟩ : ∃ q, o = some q := Option.isSome_iff_exists.1 HT.out
      subst hq
      have hz := HZ.out
      simp only [Option.getD_some] at hz
      subst hz
      rcases HLAW.out with ⟨_, h1⟩ | ⟨k, hik, hk, hS, ho2, ho⟩
      · cases h1
      subst hik
      have hj : jumpL α zs k = some q := ho.symm
      have hr : r = othL α zs k := by rw [← HR.out, ho2]; rfl
      have hSq := hS.jump hk hj
      have hsum := jump_sum hk hj
      rw [← hr] at hsum
      obtain ⟨k1, hk1, hk1e⟩ := jump_in hk hj
      have hback := fun (j : Nat) (h1 : j < q.length) (h2 : q.getD j 0 = r) => jump_back hS hk hj h1 (by rw [h2, hr])
      have hrb := (jump_form hj).1
      rw [← hr] at hrb hk1e
      have hql : q.length ≤ 4 := by have := hSq.hl; omega
      have h5 := hS.in5
      have h5q := hSq.in5
      have hzk := h5 (zs.getD k 0) (by rw [getD_at zs k hk]; exact List.getElem_mem hk)
      have hs1 := suK_bd h5 zs.length (Nat.le_refl _)
      rw [List.take_length, HN.out] at hs1
      rw [HN.out] at hk
      rw [HM.out] at hql hk1 hback
      have HVS := hid (fun p : LaterH wc => vSolves_yes _ q α β p.now hSq (HI7.out.later p.later))
      have HS1 := hid (fun p : LaterH wc => ((vSumH_any _ q p.now (by rw [HM.out]; exact hql) h5q (HI7.out.later p.later)).mono fun e w' ⟨he, hw⟩ => (⟨he, by rw [← hw]; exact Later.refl _⟩ : e = Ending.returned (.int .i64 (sumL q)) ∧ Later p.now w')))
      have HS2 := hid (fun p : LaterH wc => ((vSumH_any _ zs p.now (by rw [HN.out]; exact hlen) h5 (HI.out.later (HL7.out.trans p.later))).mono fun e w' ⟨he, hw⟩ => (⟨he, by rw [← hw]; exact Later.refl _⟩ : e = Ending.returned (.int .i64 (sumL zs)) ∧ Later p.now w')))
      obtain ⟨_, _, e0, _, hcs⟩ := HI.out
      simp only [Value.slice.injEq] at e0
      obtain ⟨rfl, hqn, rfl⟩ := e0
      clear hqn
      obtain ⟨ad, rfl, hck⟩ := hcs k (by rw [HN.out]; exact hk)
      obtain ⟨x, hx⟩ : ∃ x, zs.getD k 0 = x := ⟨_, rfl⟩
      rw [hx] at hsum hzk hck
      obtain ⟨A, hA⟩ : ∃ X, sumL q = X := ⟨_, rfl⟩
      obtain ⟨S, hSe⟩ : ∃ X, sumL zs = X := ⟨_, rfl⟩
      rw [hA, hSe] at hsum
      rw [hA] at HS1
      rw [hSe] at HS2 hs1
      have hw1 := wrapQ (q := S - x) (by omega)
      have hw2 := wrapQ (q := S - x + r) (by omega)
      have hAA : (A != S - x + r) = false := by simp [hsum]
      have hkI : (k : Int) < (N : Int) := by omega
      have hk0 : (0 : Int) ≤ (k : Int) := by omega
      have kc : ∀ p : LaterH wc, p.now.cell? (ad.add k) = some (.int .i64 x) := fun p => p.later.cell (HL7.out.cell hck)
      have HBK := hid hback
      have HK1 := hid hk1e
      have HJA := hid (fun w0 (h : Later wc w0) (j : Nat) (h1 : j < M) (h2 : q.getD j 0 = r) => ints_asG (o := some zs) (z := zs) (t := true) (by have h := implJumpAt_any _ q α β j w0 (HI7.out.later h); rw [show jumpAns q α β (j : Int) = some zs by unfold jumpAns; rw [if_pos ⟨by rw [hSq.given, hSq.sol]; rfl, within_idx.2 (by rw [HM.out]; omega)⟩]; exact HBK.out j h1 h2] at h; exact h) rfl rfl)
      rw [HN.out] at HJA
      clear hsum hx hA hSe hcs hck hback hk1e hS hSq hj ho ho2 h5 h5q hzk hs1 hr hrb
      go_wp2_with fail
      refine wp_region_laterG (by kernel_rfl) (by kernel_rfl) ?_
      repeat
        with_reducible refine wpQuiet_step (fun K hK => ?_)
        go_simp
        first
          | (with_reducible refine hK _ ?_; clear hK K)
          | (apply Exists.intro
             refine ⟨fun _ => ?_, hK _ ?_⟩
             (first
               | (go_at_call 14; with_reducible exact Calls.laterH _ (HVS.out _))
               | (go_at_call 15; first | (with_reducible exact Calls.laterH _ (HS1.out _)) | (with_reducible exact Calls.laterH _ (HS2.out _))))
             clear hK K)
      with_reducible refine wpQuiet_nil ?_
      intro w7 hw'
      obtain ⟨⟨wq, hLq⟩, hw''⟩ := hw'
      subst hw''
      have HLq := hid hLq
      clear hLq kc
      go_wp2_with fail
      go_loopw [146] (fun i wr => ∃ j : Nat, j ≤ M ∧ i = .int .i64 j ∧ Later wc wr ∧ ∀ l, l < j → q.getD l 0 ≠ r) (fun i _ => M - (intOf i).toNat)
      case atStart => exact ⟨0, Nat.zero_le _, rfl, HLq.out, fun l hl => absurd hl (Nat.not_lt_zero l)⟩
      case round =>
        obtain ⟨j, hj, rfl, hLr, hno⟩ := hrel
        have HLr := hid hLr
        have HNO := hid hno
        clear hLr hno
        by_cases hlt : j < M
        · have hltI : (j : Int) < (M : Int) := by omega
          obtain ⟨_, _, e0, _, hcs⟩ := HI7.out
          simp only [Value.slice.injEq] at e0
          obtain ⟨rfl, hqn, rfl⟩ := e0
          clear hqn
          obtain ⟨ad2, rfl, hcj⟩ := hcs j (by rw [HM.out]; exact hlt)
          obtain ⟨y, hy⟩ : ∃ x, q.getD j 0 = x := ⟨_, rfl⟩
          rw [hy] at hcj
          have kj := HLr.out.cell hcj
          have HYY := hid hy
          clear hcs hcj hy
          by_cases hyr : y = r
          · have HJ := hid (HJA.out wr HLr.out j hlt (by rw [HYY.out]; exact hyr))
            have hyb : (y == r) = true := by simp [hyr]
            clear hyr
            go_wp2_with fail
            refine HJ.out.mono ?_
            rintro e w8 ⟨a8, c8, rfl, hi8, _, hL8⟩
            have HL8 := hid (HLr.out.trans hL8)
            have HV := hid (vSame_same (.slice a8 N c8) (.slice (some ad) N c1) zs w8 hi8 (HI.out.later (HL7.out.trans HL8.out)))
            clear hi8 hL8
            go_wp2_with fail
            refine HV.out.mono ?_
            rintro e w9 ⟨rfl, n9, rfl⟩
            go_wp2_with fail
            go_ret
            exact ⟨rfl, HL1.out.trans (HL7.out.trans (HL8.out.trans (Later.drewN _ _)))⟩
          · have hyb : (y == r) = false := by simp [hyr]
            have HYR := hid hyr
            clear hyr
            go_wp2_with fail
            go_roundw
            case rel => exact ⟨j + 1, hlt, by go_num, HLr.out, fun l hl => by
              by_cases e : l = j
              · rw [e, HYY.out]; exact HYR.out
              · exact HNO.out l (by omega)⟩
            case measure => simp [intOf]; omega
        · exfalso
          exact HNO.out k1 (by omega) HK1.out
  · go_wp2_with fail
    go_ret
    exact ⟨rfl, Later.refl _⟩
end Go.Proofs.Ytdahhcigphhfdad
