/- The walk of the law FnClimbsOfHurwitz. -/
import Derived.Test.YtdahhcigphhfdadCuHx
import Derived.Test.YtdahhcigphhfdadHuLbx
import Derived.Test.YtdahhcigphhfdadHuUx
import Derived.Test.YtdahhcigphhfdadHuY
import Derived.Test.YtdahhcigphhfdadHuDij
import Derived.Test.YtdahhcigphhfdadHuBx
namespace Go.Proofs.Ytdahhcigphhfdad
open Go.RowKit

set_option maxRecDepth 100000 in
set_option maxHeartbeats 8000000 in
theorem lawClimbsOfHurwitz_walk (u v : Value) (xs ys : List Int) (w : World) (hx : BytesR w u xs) (hy : BytesR w v ys) :
    Calls Try.prog 5 #[u, v] w fun e w' => e = .returned (.bool true) ∧ Later w w' := by
  have HX := hid hx
  have HY := hid hy
  clear hx hy
  go_enter Try.func5, Try.ntmps5
  go_wp2_with fail
  refine (big_any u v xs ys w HX.out HY.out).mono ?_
  rintro e w0 ⟨⟨b, rfl, _⟩, rfl⟩
  cases b
  · go_wp2_with fail
    refine (drawClimbHurwitz_any u xs w HX.out).mono ?_
    rintro e w1 ⟨u1, zs, t1, ws, α, β, rfl, hO, hlen, hOw, hwl, hL1⟩
    obtain ⟨p1, c1, rfl, hcap⟩ := hO.shape
    obtain ⟨pw, cw, rfl, hcapw⟩ := hOw.shape
    have HI := hid hO.ints
    have HIC := hid hO.intsC
    have HW := hid hOw.ints
    have HL1 := hid hL1
    clear hO hOw hL1 hcap hcapw
    obtain ⟨o, ho⟩ : ∃ o, climbAns zs α β ws = o := ⟨_, rfl⟩
    obtain ⟨z, hz⟩ : ∃ r, o.getD [] = r := ⟨_, rfl⟩
    obtain ⟨t, ht⟩ : ∃ t, o.isSome = t := ⟨_, rfl⟩
    obtain ⟨N, hN⟩ : ∃ N, zs.length = N := ⟨_, rfl⟩
    obtain ⟨W, hW⟩ : ∃ N, ws.length = N := ⟨_, rfl⟩
    obtain ⟨M, hM⟩ : ∃ N, z.length = N := ⟨_, rfl⟩
    have HA := hid (fun w0 (h : Later w1 w0) => ints_asG (by have h := implClimbHurwitz_any _ _ zs α β ws w0 (HI.out.later h) (HW.out.later h); rw [ho] at h; exact h) hz ht)
    have HB := hid (fun w0 (h : Later w1 w0) => ints_asG (by have h := specClimbHurwitz_any _ _ zs α β ws w0 (HIC.out.later h) (HW.out.later h); rw [ho] at h; exact h) hz ht)
    have hlaw : t = true → Sol zs α β ∧ ws.all (within 0 ((zs.length : Int) - 1)) = true ∧ climbL α zs ws = some z := by
      intro h
      rw [← ht] at h
      obtain ⟨q, hq⟩ := Option.isSome_iff_exists.1 h
      rw [hq, Option.getD_some] at hz
      subst hz
      rw [hq] at ho
      unfold climbAns at ho
      split at ho
      · next hc =>
        have hg := hc.1
        rw [Bool.and_eq_true] at hg
        have hwb := hc.2
        unfold wordB at hwb
        rw [Bool.and_eq_true] at hwb
        exact ⟨Sol.of hg.1 hg.2, hwb.2, ho⟩
      · cases ho
    rw [hN] at HI HIC HA HB ⊢
    rw [hW] at HW HA HB hwl ⊢
    rw [hM] at HA HB
    have HLAW := hid hlaw
    have HN := hid hN
    have HWn := hid hW
    have HM := hid hM
    have h1 : (t != t) = false := by simp
    clear ho hz ht hN hW hM hlaw
    go_wp2_with fail
    refine (HA.out _ (Later.refl _)).mono ?_
    rintro e w2 ⟨a2, c2, rfl, hi2, _, hL2⟩
    have HI2 := hid hi2
    have HL2 := hid hL2
    clear hi2 hL2
    go_wp2_with fail
    refine (HB.out _ HL2.out).mono ?_
    rintro e w3 ⟨a3, c3, rfl, hi3, _, hL3⟩
    have HI2 := hid (HI2.out.later hL3)
    have HV := hid (vSame_same (.slice a2 M c2) (.slice a3 M c3) z w3 HI2.out hi3)
    have HL3 := hid (HL2.out.trans hL3)
    clear hi3 hL3 HL2 HA HB
    go_upto_region 6 with fail
    go_cut [65] (fun s wx => s = .bool false ∧ Later w3 wx)
    case first =>
      as_aux_lemma =>
      go_wp2_with fail
      refine HV.out.mono ?_
      rintro e w6 ⟨rfl, n6, rfl⟩
      go_wp2_with fail
      go_meet
      case rel => exact ⟨rfl, Later.drewN _ _⟩
    case rest =>
    as_aux_lemma =>
    obtain ⟨rfl, hLc⟩ := hcut
    have HI2 := hid (HI2.out.later hLc)
    have HL3 := hid (HL3.out.trans hLc)
    clear hLc HV h1
    go_upto_if 66 with fail
    go_cut [] (fun wx => Later wc wx)
    case first =>
      as_aux_lemma =>
      cases t
      · go_wp2_with fail
        go_meet
        case rel => exact Later.refl _
      · obtain ⟨hS, hall, hcl⟩ := HLAW.out rfl
        obtain ⟨f, hf0, hf1, hf2⟩ := climb_at ws zs z hS hall hcl
        have hzS := climb_sol ws zs z hS hall hcl
        have hfu : β = 0 → fundL α z = fundL α zs := by
          intro e
          subst e
          exact (climb_fund ws zs z hS hall hcl).2
        rw [HWn.out] at hf1 hf2
        rw [HN.out] at hf2
        obtain ⟨F, hF⟩ : ∃ F, fundL α zs = F := ⟨_, rfl⟩
        obtain ⟨G, hG⟩ : ∃ F, fundL α z = F := ⟨_, rfl⟩
        rw [hF, hG] at hfu
        have HFA := hid (fun w0 (h : Later w1 w0) => ints_asG (o := some F) (z := F) (t := true) (by have h := implFundamentalOf_any (.slice p1 N c1) zs α β w0 (HI.out.later h); rw [show fundLAns zs α β = some F by unfold fundLAns; rw [if_pos (by rw [hS.given, hS.sol]; rfl)]; exact congrArg some hF] at h; exact h) rfl rfl)
        have HGA := hid (fun w0 (h : Later wc w0) => ints_asG (o := some G) (z := G) (t := true) (by have h := implFundamentalOf_any (.slice a2 M c2) z α β w0 (HI2.out.later h); rw [show fundLAns z α β = some G by unfold fundLAns; rw [if_pos (by rw [hzS.given, hzS.sol]; rfl)]; exact congrArg some hG] at h; exact h) rfl rfl)
        obtain ⟨k, hk⟩ : ∃ N, F.length = N := ⟨_, rfl⟩
        obtain ⟨k2, hk2⟩ : ∃ N, G.length = N := ⟨_, rfl⟩
        rw [hk] at HFA
        rw [hk2] at HGA
        have HF2 := hid hf2
        have HF1 := hid hf1
        have HFU := hid hfu
        have HF0 := hid hf0
        clear hS hall hcl hf0 hf1 hf2 hzS hfu hF hG hk hk2
        go_wp2_with fail
        go_loopw [13, 70] (fun o i wr => ∃ (j : Nat) (p : Option Addr) (c : Nat), j ≤ W ∧ i = .int .i64 j ∧ o = .slice p N c ∧ Ints wr (.slice p N c) (f j) ∧ Later wc wr) (fun _ i _ => W - (intOf i).toNat)
        case atStart => exact ⟨0, p1, c1, Nat.zero_le _, rfl, rfl, by rw [HF0.out]; exact HI.out.later HL3.out, Later.refl _⟩
        case round =>
          obtain ⟨j, p, c, hj, rfl, rfl, hI, hLr⟩ := hrel
          have HJ := hid hI
          have HLr := hid hLr
          clear hI hLr
          by_cases hlt : j < W
          · have hltI : (j : Int) < (W : Int) := by omega
            obtain ⟨hSj, hlj, hjj, hx0, hx1⟩ := HF2.out j hlt
            have hln := Sol.jump_len hjj
            rw [hlj] at hln
            obtain ⟨_, _, e0, _, hcs⟩ := HW.out
            simp only [Value.slice.injEq] at e0
            obtain ⟨rfl, hqn, rfl⟩ := e0
            clear hqn
            obtain ⟨ad, rfl, hcell⟩ := hcs j (by rw [HWn.out]; exact hlt)
            obtain ⟨x, hx⟩ : ∃ x, ws.getD j 0 = x := ⟨_, rfl⟩
            rw [hx] at hcell hjj hx0 hx1
            have kc := HLr.out.cell (HL3.out.cell hcell)
            have HQ := hid (ints_asG (o := some (f (j + 1))) (z := f (j + 1)) (t := true) (by have h := implJumpAt_any (.slice p N c) (f j) α β x wr HJ.out; rw [show jumpAns (f j) α β x = some (f (j + 1)) by unfold jumpAns; rw [if_pos ⟨by rw [hSj.given, hSj.sol]; rfl, by simp only [within, Bool.and_eq_true, decide_eq_true_eq]; omega⟩]; exact hjj] at h; exact h) rfl rfl)
            rw [hln] at HQ
            clear hSj hlj hjj hx0 hx1 hln hcs hcell hx
            go_wp2_with fail
            refine HQ.out.mono ?_
            rintro e w8 ⟨a8, c8, rfl, hi8, _, hL8⟩
            have HI8 := hid hi8
            have HL8 := hid (HLr.out.trans hL8)
            clear hi8 hL8
            go_wp2_with fail
            go_roundw
            case rel => exact ⟨j + 1, a8, c8, hlt, by go_num, rfl, HI8.out, HL8.out⟩
            case measure => simp [intOf]; omega
          · obtain rfl : j = W := by omega
            have hfj := HF1.out
            have HJz := hid (show Ints wr (.slice p N c) z by rw [← hfj]; exact HJ.out)
            clear hlt HJ
            go_wp2_with fail
            refine (HFA.out _ (HL3.out.trans HLr.out)).mono ?_
            rintro e w8 ⟨a8, c8, rfl, hi8, _, hL8⟩
            have HI8 := hid hi8
            have HL8 := hid (HLr.out.trans hL8)
            have HJz := hid (HJz.out.later hL8)
            clear hi8 hL8
            go_wp2_with fail
            refine (HGA.out _ HL8.out).mono ?_
            rintro e w9 ⟨a9, c9, rfl, hi9, _, hL9⟩
            have HI9 := hid hi9
            have HI8 := hid (HI8.out.later hL9)
            have HJz := hid (HJz.out.later hL9)
            have HL9 := hid (HL8.out.trans hL9)
            obtain rfl : N = M := by
              obtain ⟨_, _, e1, _⟩ := HJz.out
              simp only [Value.slice.injEq] at e1
              rw [e1.2.1]; exact HM.out
            have HV := hid (vSame_same (.slice p N c) (.slice a2 N c2) z w9 HJz.out (HI2.out.later HL9.out))
            clear hi9 hL9
            by_cases hb : β = 0
            · have hbb : (β == 0) = true := by simp [hb]
              have hFG := HFU.out hb
              subst hFG
              have HV2 := hid (fun w' (h : Later w9 w') => vSame_same (.slice a8 k c8) (.slice a9 k2 c9) G w' (HI8.out.later h) (HI9.out.later h))
              clear hb
              go_wp2_with fail
              refine HV.out.mono ?_
              rintro e w10 ⟨rfl, n10, rfl⟩
              go_wp2_with fail
              refine (HV2.out _ (Later.drewN _ _)).mono ?_
              rintro e w11 ⟨rfl, n11, rfl⟩
              go_wp2_with fail
              go_meet
              case rel => exact HL9.out.trans (Later.drewN _ _)
            · have hbb : (β == 0) = false := by simp [hb]
              clear hb
              go_wp2_with fail
              refine HV.out.mono ?_
              rintro e w10 ⟨rfl, n10, rfl⟩
              go_wp2_with fail
              go_meet
              case rel => exact HL9.out.trans (Later.drewN _ _)
    case rest =>
    as_aux_lemma =>
    have HLZ := hid (HL1.out.trans (HL3.out.trans hcut))
    clear hcut HI HIC HW HI2 HL3 HLAW
    go_wp2_with fail
    refine (drawBranchesOf_any v ys _ (HY.out.later HLZ.out)).mono ?_
    rintro e w4 ⟨u2, zs2, α2, β2, rfl, hO, hlen2, hL4⟩
    obtain ⟨p2, cz2, rfl, hcap⟩ := hO.shape
    have HI := hid hO.ints
    have HIC := hid hO.intsC
    have HL4 := hid (HLZ.out.trans hL4)
    clear hO hL4 hcap
    obtain ⟨o2, ho⟩ : ∃ o, brAns zs2 α2 β2 = o := ⟨_, rfl⟩
    obtain ⟨L, hL⟩ : ∃ r, o2.getD [] = r := ⟨_, rfl⟩
    obtain ⟨t2, ht⟩ : ∃ t, o2.isSome = t := ⟨_, rfl⟩
    obtain ⟨N2, hN2⟩ : ∃ N, zs2.length = N := ⟨_, rfl⟩
    obtain ⟨n, hn⟩ : ∃ N, L.length = N := ⟨_, rfl⟩
    have HA := hid (fun w0 (h : Later w4 w0) => rows_asG (by have h := implBranchesOf_any _ zs2 α2 β2 w0 (HI.out.later h); rw [ho] at h; exact h) hL ht)
    have HB := hid (fun w0 (h : Later w4 w0) => rows_asG (by have h := specBranchesOf_any _ zs2 α2 β2 w0 (HIC.out.later h); rw [ho] at h; exact h) hL ht)
    have hlaw := branch_law zs2 α2 β2
    rw [ho, hL, hn] at hlaw
    rw [hn] at HA HB
    rw [hN2] at HI HIC HA HB hlen2 ⊢
    have HLAW := hid hlaw
    have HN2 := hid hN2
    have HNn := hid hn
    have h1 : (t2 != t2) = false := by simp
    clear ho hL ht hN2 hn hlaw
    go_wp2_with fail
    refine (HA.out _ (Later.refl _)).mono ?_
    rintro e w5 ⟨a5, c5, rfl, hr5, hL5⟩
    have HR5 := hid hr5
    have HL5 := hid hL5
    clear hr5 hL5
    go_wp2_with fail
    refine (HB.out _ HL5.out).mono ?_
    rintro e w6 ⟨a6, c6, rfl, hr6, hL6⟩
    have HR5 := hid (HR5.out.later hL6)
    have HL6 := hid (HL5.out.trans hL6)
    have HV := hid (vSameLists_same (.slice a5 n c5) (.slice a6 n c6) L w6 (by have h := HR5.out.1; rw [HNn.out] at h; exact h) (by have h := hr6.1; rw [HNn.out] at h; exact h))
    clear hr6 hL6 HL5 HA HB
    go_upto_region 25 with fail
    go_cut [150] (fun s wx => s = .bool false ∧ Later w6 wx)
    case first =>
      as_aux_lemma =>
      go_wp2_with fail
      refine HV.out.mono ?_
      rintro e w7 ⟨rfl, n7, rfl⟩
      go_wp2_with fail
      go_meet
      case rel => exact ⟨rfl, Later.drewN _ _⟩
    case rest =>
    as_aux_lemma =>
    obtain ⟨rfl, hLc⟩ := hcut
    have HR5 := hid (HR5.out.later hLc)
    have HL6 := hid (HL6.out.trans hLc)
    have hnm : n ≤ 9223372036854775807 := by have h := HR5.out.1; obtain ⟨_, _, _, h, _⟩ := h; rw [HNn.out] at h; exact h
    clear hLc HV h1
    go_wp2_with fail
    go_loopw [153] (fun i wr => ∃ j : Nat, j ≤ n ∧ i = .int .i64 j ∧ Later wc wr) (fun i _ => n - (intOf i).toNat)
    case atStart => exact ⟨0, Nat.zero_le _, rfl, Later.refl _⟩
    case round =>
      obtain ⟨j, hj, rfl, hLr⟩ := hrel
      have HLr := hid hLr
      clear hLr
      by_cases hlt : j < n
      · have hltI : (j : Int) < (n : Int) := by omega
        have hj0 : (0 : Int) ≤ (j : Int) := by omega
        obtain ⟨hSz, hSj, hsum, hord⟩ := HLAW.out j hlt
        obtain ⟨ad, rj, qj, rfl, hcj, _, hij⟩ := HR5.out.2 j (by rw [HNn.out]; exact hlt)
        obtain ⟨R, hR⟩ : ∃ R, L.getD j [] = R := ⟨_, rfl⟩
        rw [hR] at hSj hsum hcj hij hord
        obtain ⟨l, hl⟩ : ∃ l, R.length = l := ⟨_, rfl⟩
        have hjl : R.length ≤ 4 := by have := hSj.hl; omega
        rw [hl] at hcj hij
        have kj := HLr.out.cell hcj
        have HIj := hid (hij.later HLr.out)
        have HVS := hid (vSolves_yes (.slice rj l qj) R α2 β2 wr hSj HIj.out)
        have HS1 := hid (fun w' (h : Later wr w') => vSumH_any (.slice rj l qj) R w' hjl hSj.in5 (HIj.out.later h))
        have HS2 := hid (fun w' (h : Later wr w') => vSumH_any (.slice p2 N2 cz2) zs2 w' (by rw [HN2.out]; exact hlen2) hSz.in5 (HI.out.later (HL6.out.trans (HLr.out.trans h))))
        obtain ⟨A, hA⟩ : ∃ X, sumL R = X := ⟨_, rfl⟩
        obtain ⟨B, hB⟩ : ∃ X, sumL zs2 = X := ⟨_, rfl⟩
        rw [hA, hB] at hsum
        rw [hA] at HS1
        rw [hB] at HS2
        have hAB : ¬ A ≤ B := by omega
        have HORD := hid hord
        have HRR := hid hR
        have HRl := hid hl
        clear hSz hSj hsum hord hcj hij hl hjl hA hB hR
        by_cases h0j : 0 < j
        · obtain ⟨i, hi⟩ : ∃ i, i + 1 = j := ⟨j - 1, by omega⟩
          have hwi : IntKind.i64.wrap ((j : Int) - 1) = (i : Int) := by rw [wrapQ (by omega)]; omega
          have hiI : (i : Int) < (n : Int) := by omega
          have hi0 : (0 : Int) ≤ (i : Int) := by omega
          obtain ⟨hln, hbef⟩ := HORD.out i hi
          obtain ⟨d, hd1, hd2, hd3⟩ := befL_first _ _ hln hbef
          obtain ⟨ad', ri, qi, e1, hci, _, hii⟩ := HR5.out.2 i (by rw [HNn.out]; omega)
          simp only [Option.some.injEq] at e1
          subst e1
          obtain ⟨R', hR'⟩ : ∃ R, L.getD i [] = R := ⟨_, rfl⟩
          rw [hR'] at hci hii hln hd1 hd2 hd3
          have HVB := hid (fun w' (h : Later wr w') => vBefore_lex (.slice ri R'.length qi) (.slice rj l qj) R' R w' d (hii.later (HLr.out.trans h)) (HIj.out.later h) hd1 (by rw [← hln]; exact hd1) hd2 hd3)
          obtain ⟨l2, hl2⟩ : ∃ l, R'.length = l := ⟨_, rfl⟩
          rw [hl2] at hci HVB
          have ki := HLr.out.cell hci
          have hd : decide (0 < j) = true := decide_eq_true h0j
          clear hln hbef hd1 hd2 hd3 hci hii hR' hl2 hi
          go_wp2_with fail
          refine HVS.out.mono ?_
          rintro e w8 ⟨rfl, hL8⟩
          replace ki := hL8.cell ki
          have HL8 := hid hL8
          clear hL8 kj
          go_wp2_with fail
          refine (HS1.out _ HL8.out).mono ?_
          rintro e w9 ⟨rfl, rfl⟩
          go_wp2_with fail
          refine (HS2.out _ HL8.out).mono ?_
          rintro e w10 ⟨rfl, rfl⟩
          go_wp2_with fail
          refine (HVB.out _ HL8.out).mono ?_
          rintro e w11 ⟨rfl, n11, rfl⟩
          have HL11 := hid (HLr.out.trans (HL8.out.trans (Later.drewN _ n11)))
          go_wp2_with fail
          go_roundw
          case rel => exact ⟨j + 1, hlt, by go_num, HL11.out⟩
          case measure => simp [intOf]; omega
        · have hd : decide (0 < j) = false := decide_eq_false h0j
          go_wp2_with fail
          refine HVS.out.mono ?_
          rintro e w8 ⟨rfl, hL8⟩
          have HL8 := hid hL8
          clear hL8 kj
          go_wp2_with fail
          refine (HS1.out _ HL8.out).mono ?_
          rintro e w9 ⟨rfl, rfl⟩
          go_wp2_with fail
          refine (HS2.out _ HL8.out).mono ?_
          rintro e w10 ⟨rfl, rfl⟩
          have HL11 := hid (HLr.out.trans HL8.out)
          go_wp2_with fail
          go_roundw
          case rel => exact ⟨j + 1, hlt, by go_num, HL11.out⟩
          case measure => simp [intOf]; omega
      · have hge : ¬ (j : Int) < (n : Int) := by omega
        go_wp2_with fail
        go_ret
        exact ⟨rfl, HL4.out.trans (HL6.out.trans HLr.out)⟩
  · go_wp2_with fail
    go_ret
    exact ⟨rfl, Later.refl _⟩
end Go.Proofs.Ytdahhcigphhfdad
