/- The walk of the law FnTreesOfHurwitz. -/
import Derived.Test.YtoaopmafokoaoaaCuTr
import Derived.Test.YtoaopmafokoaoaaHuTij
import Derived.Test.YtoaopmafokoaoaaHuTm
import Derived.Test.YtoaopmafokoaoaaHuY
import Derived.Test.YtoaopmafokoaoaaHuDij
import Derived.Test.YtoaopmafokoaoaaHuBx
namespace Go.Proofs.Ytoaopmafokoaoaa
open Go.RowKit

set_option maxRecDepth 100000 in
set_option maxHeartbeats 8000000 in
theorem lawTreesOfHurwitz_walk (u v : Value) (xs ys : List Int) (w : World) (hx : BytesR w u xs) (hy : BytesR w v ys) :
    Calls Try.prog 3 #[u, v] w fun e w' => e = .returned (.bool true) ∧ Later w w' := by
  have HX := hid hx
  have HY := hid hy
  clear hx hy
  go_enter Try.func3, Try.ntmps3
  go_wp2_with fail
  refine (big_any u v xs ys w HX.out HY.out).mono ?_
  rintro e w0 ⟨⟨b, rfl, _⟩, rfl⟩
  cases b
  · go_wp2_with fail
    refine (drawTreeUpTo_any u xs w HX.out).mono ?_
    rintro e w1 ⟨u1, zs, α, β, most, rfl, hO, hlen, hL1⟩
    obtain ⟨p1, c1, rfl, hcap⟩ := hO.shape
    have HI := hid hO.ints
    have HIC := hid hO.intsC
    have HL1 := hid hL1
    clear hO hL1 hcap
    obtain ⟨N, hN⟩ : ∃ N, zs.length = N := ⟨_, rfl⟩
    have HA := hid (fun w0 (h : Later w1 w0) => implTreeUpTo_any _ zs α β most w0 (HI.out.later h))
    have HB := hid (fun w0 (h : Later w1 w0) => specTreeUpTo_any _ zs α β most w0 (HIC.out.later h))
    rw [hN] at HI HIC HA HB hlen ⊢
    have HN := hid hN
    clear hN
    go_wp2_with fail
    refine (HA.out _ (Later.refl _)).mono ?_
    rintro e w2 ⟨o, hT, v2, rfl, hr2, hL2⟩
    obtain ⟨L, hL⟩ : ∃ r, o.getD [] = r := ⟨_, rfl⟩
    obtain ⟨t, ht⟩ : ∃ t, o.isSome = t := ⟨_, rfl⟩
    have HT := hid hT
    rw [hL] at hr2
    rw [ht]
    obtain ⟨a2, c2, rfl, _⟩ := hr2.shape
    obtain ⟨n, hn⟩ : ∃ N, L.length = N := ⟨_, rfl⟩
    have hrg := hr2.rg
    rw [hn]
    have HR2 := hid hrg
    have HL2 := hid hL2
    clear hT hr2 hrg hL2
    go_wp2_with fail
    refine (HB.out _ HL2.out).mono ?_
    rintro e w3 ⟨o', hT', v3, rfl, hr3, hL3⟩
    have hoo := treeAns_one hT' HT.out
    subst hoo
    rw [hL] at hr3
    rw [ht]
    obtain ⟨a3, c3, rfl, _⟩ := hr3.shape
    have hrg := hr3.rg
    rw [hn]
    have HR3 := hid hrg
    have HR2 := hid (HR2.out.later hL3)
    have HL3 := hid (HL2.out.trans hL3)
    have hlaw := tree_law hT'
    clear hT' hr3 hrg hL3 HL2 HA HB
    have HLAW := hid (show t = true → Sol zs α β ∧ zs ∈ L ∧ n ≤ 500 ∧ (∀ j, j < n → Sol (L.getD j []) α β ∧ (L.getD j []).getD 0 0 ≤ most ∧ sumL zs ≤ sumL (L.getD j []) ∧ (L.getD j []).length = N ∧ (0 < j → befL (L.getD (j - 1) []) (L.getD j []) = true) ∧ ∀ y ∈ upF α (L.getD j []) (L.getD j []).length, y.getD 0 0 ≤ most → y ∈ L) by
      intro h
      rw [← ht] at h
      rcases hlaw with h1 | ⟨L', h1, h2, h3, h4, h5⟩
      · rw [h1] at h; cases h
      · rw [h1] at hL
        simp only [Option.getD_some] at hL
        subst hL
        rw [hn] at h3 h4
        rw [HN.out] at h4
        exact ⟨h5, h2, h3, h4⟩)
    have HNn := hid hn
    have h1 : (t != t) = false := by simp
    have HV := hid (vSameLists_same (.slice a2 n c2) (.slice a3 n c3) L w3 (by have h := HR2.out.1; rw [HNn.out] at h; exact h) (by have h := HR3.out.1; rw [HNn.out] at h; exact h))
    clear hlaw HT hL ht hn
    go_upto_region 6 with fail
    go_cut [53] (fun s wx => s = .bool false ∧ Later w3 wx)
    case first =>
      as_aux_lemma =>
      go_wp2_with fail
      refine HV.out.mono ?_
      rintro e w6 ⟨rfl, n6, rfl⟩
      go_wp2_with fail
      go_meet
      case rel => exact ⟨rfl, Later.drewN _ _⟩
    case rest =>
    as_aux_lemma =>
    obtain ⟨rfl, hLc⟩ := hcut
    have HR2 := hid (HR2.out.later hLc)
    have HL3 := hid (HL3.out.trans hLc)
    clear hLc HV HR3 h1
    cases t
    · go_wp2_with fail
      go_ret
      exact ⟨rfl, HL1.out.trans HL3.out⟩
    · obtain ⟨hS, hmem, hn500, hall⟩ := HLAW.out rfl
      have HS := hid hS
      have HMEM := hid hmem
      have HALL := hid hall
      have HIc := hid (HI.out.later HL3.out)
      clear hS hmem hall HLAW HIC HI
      go_wp2_with fail
      go_loopw [58] (fun i wr => ∃ j : Nat, j ≤ n ∧ i = .int .i64 j ∧ Later wc wr) (fun i _ => n - (intOf i).toNat)
      case atStart => exact ⟨0, Nat.zero_le _, rfl, Later.refl _⟩
      case round =>
        obtain ⟨j, hj, rfl, hLr⟩ := hrel
        have HLr := hid hLr
        clear hLr
        by_cases hlt : j < n
        · as_aux_lemma =>
          have hltI : (j : Int) < (n : Int) := by omega
          obtain ⟨hSj, hmj, hsj, hlj, hbj, hcj⟩ := HALL.out j hlt
          obtain ⟨ad, rj, qj, e1, hcell, _, hij⟩ := HR2.out.2 j (by rw [HNn.out]; exact hlt)
          subst e1
          obtain ⟨R, hR⟩ : ∃ R, L.getD j [] = R := ⟨_, rfl⟩
          rw [hR] at hSj hmj hsj hlj hbj hcj hcell hij
          have hjl : R.length ≤ 4 := by have := hSj.hl; omega
          have hj5 := hSj.in5
          have hz5 := HS.out.in5
          obtain ⟨l, hl⟩ : ∃ l, R.length = l := ⟨_, rfl⟩
          have HLJ := hid (show l = N by rw [← hl]; exact hlj)
          have HBJ := hid hbj
          have HRR := hid hR
          have hl0 : 0 < l := by have := hSj.hl; omega
          have HRl := hid hl
          rw [hl] at hcell hij hcj
          obtain ⟨_, _, e0, _, hcs⟩ := id hij
          simp only [Value.slice.injEq] at e0
          obtain ⟨rfl, hl', rfl⟩ := e0
          obtain ⟨rd, rfl, hc0⟩ := hcs 0 (by rw [hl]; exact hl0)
          rw [show rd.add 0 = rd by simp [Addr.add]] at hc0
          clear hl'
          obtain ⟨X, hX⟩ : ∃ X, R.getD 0 0 = X := ⟨_, rfl⟩
          rw [hX] at hmj hc0
          have kj := HLr.out.cell hcell
          have HIj := hid (hij.later HLr.out)
          have HSJ := hid hSj
          have HCJ := hid hcj
          have hA : decide (most < X) = false := decide_eq_false (by omega)
          have hA' : ¬ most < X := by omega
          obtain ⟨A, hAe⟩ : ∃ A, sumL R = A := ⟨_, rfl⟩
          obtain ⟨E, hEe⟩ : ∃ A, sumL zs = A := ⟨_, rfl⟩
          rw [hAe, hEe] at hsj
          have hBA : ¬ A < E := by omega
          have hdA : decide (A < E) = false := decide_eq_false hBA
          have HVS := hid (vSolves_yes (.slice (some rd) l qj) R α β wr HSJ.out HIj.out)
          have HS1 := hid (fun w' (h : Later wr w') => (vSumH_any (.slice (some rd) l qj) R w' hjl hj5 (HIj.out.later h)).mono fun e w'' ⟨he, hw⟩ => (⟨by rw [he, hAe], hw⟩ : e = Ending.returned (.int .i64 A) ∧ w' = w''))
          have HS2 := hid (fun w' (h : Later wr w') => (vSumH_any (.slice p1 N c1) zs w' (by rw [HN.out]; exact hlen) hz5 (HIc.out.later (HLr.out.trans h))).mono fun e w'' ⟨he, hw⟩ => (⟨by rw [he, hEe], hw⟩ : e = Ending.returned (.int .i64 E) ∧ w' = w''))
          have k0 := HLr.out.cell hc0
          have hl0I : (0 : Int) < (l : Int) := by omega
          clear hSj hmj hsj hlj hbj hcj hcell hij hl hR hX hjl hj5 hz5 hcs hc0 hAe hEe
          go_upto_region 13 with fail
          go_cut [95] (fun s wx => s = .bool false ∧ Later wr wx)
          case first =>
            as_aux_lemma =>
            by_cases h0j : 0 < j
            · obtain ⟨i, hi⟩ : ∃ i, j = i + 1 := ⟨j - 1, by omega⟩
              have hwi : IntKind.i64.wrap ((j : Int) - 1) = (i : Int) := by rw [wrapQ (by omega)]; omega
              have hiI : (i : Int) < (n : Int) := by omega
              have hi0 : (0 : Int) ≤ (i : Int) := by omega
              obtain ⟨hSi, _, _, hli, _⟩ := HALL.out i (by omega)
              have hbe := HBJ.out h0j
              rw [show j - 1 = i by omega] at hbe
              obtain ⟨ad', ri, qi, e1, hci, _, hii⟩ := HR2.out.2 i (by rw [HNn.out]; omega)
              simp only [Option.some.injEq] at e1
              subst e1
              obtain ⟨R', hR'⟩ : ∃ R, L.getD i [] = R := ⟨_, rfl⟩
              rw [hR'] at hSi hci hii hbe hli
              obtain ⟨d, hd1, hd2, hd3⟩ := befL_place (by rw [HRl.out, HLJ.out]; exact hli) hbe
              obtain ⟨l2, hl2⟩ : ∃ l, R'.length = l := ⟨_, rfl⟩
              rw [hl2] at hci
              have HII := hid hii
              rw [hl2] at HII
              have HD := hid (And.intro hd1 (And.intro hd2 hd3))
              have hdl : d < R.length := by rw [HRl.out, HLJ.out, ← hli]; exact hd1
              have HDL := hid hdl
              have hd : decide (0 < j) = true := decide_eq_true h0j
              have hdI : decide ((0 : Int) < (j : Int)) = true := decide_eq_true (by omega)
              clear hSi hii hbe hli hl2 hR' hi hd1 hd2 hd3 hdl
              go_wp2_with fail
              refine HVS.out.mono ?_
              rintro e w9 ⟨rfl, hL9⟩
              have k0' := hL9.cell k0
              have HL9 := hid hL9
              clear hL9 k0
              go_wp2_with fail
              refine (HS1.out _ HL9.out).mono ?_
              rintro e w10 ⟨rfl, rfl⟩
              go_wp2_with fail
              refine (HS2.out _ HL9.out).mono ?_
              rintro e w10 ⟨rfl, rfl⟩
              have kc := HL9.out.cell (HLr.out.cell hci)
              go_wp2_with fail
              refine (vBefore_lex _ (.slice (some rd) l qj) R' R w9 d (HII.out.later (HLr.out.trans HL9.out)) (HIj.out.later HL9.out) HD.out.1 HDL.out HD.out.2.1 HD.out.2.2).mono ?_
              rintro e w11 ⟨rfl, n11, rfl⟩
              go_wp2_with fail
              go_meet
              case rel => exact ⟨rfl, HL9.out.trans (Later.drewN _ _)⟩
            · have hd : decide (0 < j) = false := decide_eq_false h0j
              have hdI : decide ((0 : Int) < (j : Int)) = false := decide_eq_false (by omega)
              go_wp2_with fail
              refine HVS.out.mono ?_
              rintro e w9 ⟨rfl, hL9⟩
              have k0' := hL9.cell k0
              have HL9 := hid hL9
              clear hL9 k0
              go_wp2_with fail
              refine (HS1.out _ HL9.out).mono ?_
              rintro e w10 ⟨rfl, rfl⟩
              go_wp2_with fail
              refine (HS2.out _ HL9.out).mono ?_
              rintro e w10 ⟨rfl, rfl⟩
              go_wp2_with fail
              go_meet
              case rel => exact ⟨rfl, HL9.out⟩
          case rest =>
          as_aux_lemma =>
          obtain ⟨rfl, hLc⟩ := hcut
          have HLw := hid (HLr.out.trans hLc)
          have HIw := hid (HIj.out.later hLc)
          obtain ⟨U, hU⟩ : ∃ U, upF α R l = U := ⟨_, rfl⟩
          have HQ := hid (rows_asG (o := some U) (L := U) (t := true) (by have h := implBranchesOf_any (.slice (some rd) l qj) R α β _ HIw.out; rw [show brAns R α β = some U by unfold brAns; rw [if_pos (by rw [HSJ.out.given, HSJ.out.sol]; rfl), HRl.out, hU]] at h; exact h) rfl rfl)
          have hfa := (upF_all HSJ.out l (by rw [HRl.out]; exact Nat.le_refl _)).2
          have hcl := HCJ.out
          rw [hU] at hfa hcl
          have HFA := hid hfa
          have HCL := hid hcl
          obtain ⟨m, hm⟩ : ∃ m, U.length = m := ⟨_, rfl⟩
          have HM := hid hm
          have hm4 : m ≤ 4 := by have h1 := upF_len α R l; rw [hU, hm] at h1; have h2 := HSJ.out.hl; rw [HRl.out] at h2; omega
          rw [hm] at HQ
          clear hU hfa hcl hm hLc kj k0 HVS HS1 HS2 hA hA' hBA hdA
          go_wp2_with fail
          refine HQ.out.mono ?_
          rintro e w9 ⟨a9, c9, rfl, hr9, hL9⟩
          have HR9 := hid hr9
          have HL9 := hid (HLw.out.trans hL9)
          clear hr9 hL9 HQ
          go_wp2_with fail
          go_loopw [107] (fun i wr => ∃ k : Nat, k ≤ m ∧ i = .int .i64 k ∧ Later w9 wr) (fun i _ => m - (intOf i).toNat)
          case atStart => exact ⟨0, Nat.zero_le _, rfl, Later.refl _⟩
          case round =>
            obtain ⟨k, hk, rfl, hLk⟩ := hrel
            have HLk := hid hLk
            clear hLk
            by_cases hkm : k < m
            · as_aux_lemma =>
              have hkI : (k : Int) < (m : Int) := by omega
              obtain ⟨ad9, rk, qk, e9, hck, _, hik⟩ := HR9.out.2 k (by rw [HM.out]; exact hkm)
              subst e9
              have hSm : U.getD k [] ∈ U := at_memG (by rw [HM.out]; exact hkm)
              obtain ⟨S, hSe⟩ : ∃ S, U.getD k [] = S := ⟨_, rfl⟩
              rw [hSe] at hck hik hSm
              obtain ⟨_, _, hSl⟩ := HFA.out S hSm
              obtain ⟨ls, hls⟩ : ∃ l, S.length = l := ⟨_, rfl⟩
              have hls0 : 0 < ls := by rw [← hls, hSl, HRl.out]; exact hl0
              rw [hls] at hck hik
              obtain ⟨_, _, e0, _, hcs⟩ := id hik
              simp only [Value.slice.injEq] at e0
              obtain ⟨rfl, hl', rfl⟩ := e0
              obtain ⟨sd, rfl, hc0⟩ := hcs 0 (by rw [hls]; exact hls0)
              rw [show sd.add 0 = sd by simp [Addr.add]] at hc0
              clear hl'
              obtain ⟨Z, hZ⟩ : ∃ Z, S.getD 0 0 = Z := ⟨_, rfl⟩
              rw [hZ] at hc0
              have kk := HLk.out.cell hck
              have k0 := HLk.out.cell hc0
              have hls0I : (0 : Int) < (ls : Int) := by omega
              by_cases hz : Z ≤ most
              · have hdz : decide (Z ≤ most) = true := decide_eq_true hz
                have hin := HCL.out S hSm (by rw [hZ]; exact hz)
                have HVH := hid (by have h := vHas_memG (some ad) c2 (.slice (some sd) ls qk) L S wr (HR2.out.later (HL9.out.trans HLk.out)) (hik.later HLk.out) hin (by rw [HNn.out]; omega); rw [HNn.out] at h; exact h)
                clear hck hik hSm hSe hls hSl hcs hc0 hZ hin
                go_wp2_with fail
                refine HVH.out.mono ?_
                rintro e w12 ⟨rfl, n12, rfl⟩
                go_wp2_with fail
                go_roundw
                case rel => exact ⟨k + 1, hkm, by go_num, HLk.out.trans (Later.drewN _ _)⟩
                case measure => simp [intOf]; omega
              · have hdz : decide (Z ≤ most) = false := decide_eq_false hz
                clear hck hik hSm hSe hls hSl hcs hc0 hZ
                go_wp2_with fail
                go_roundw
                case rel => exact ⟨k + 1, hkm, by go_num, HLk.out⟩
                case measure => simp [intOf]; omega
            · have hge : ¬ (k : Int) < (m : Int) := by omega
              go_wp2_with fail
              go_roundw
              case rel => exact ⟨j + 1, hlt, by go_num, HL9.out.trans HLk.out⟩
              case measure => simp [intOf]; omega
        · have hge : ¬ (j : Int) < (n : Int) := by omega
          have HVH := hid (by have h := vHas_memG a2 c2 (.slice p1 N c1) L zs wr (HR2.out.later HLr.out) (HIc.out.later HLr.out) HMEM.out (by rw [HNn.out]; omega); rw [HNn.out] at h; exact h)
          go_wp2_with fail
          refine HVH.out.mono ?_
          rintro e w9 ⟨rfl, n9, rfl⟩
          go_wp2_with fail
          go_ret
          exact ⟨rfl, HL1.out.trans (HL3.out.trans (HLr.out.trans (Later.drewN _ _)))⟩
  · go_wp2_with fail
    go_ret
    exact ⟨rfl, Later.refl _⟩
end Go.Proofs.Ytoaopmafokoaoaa
