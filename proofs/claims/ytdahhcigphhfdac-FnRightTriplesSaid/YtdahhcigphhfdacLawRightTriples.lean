/- The walk of the law FnRightTriples. -/
import Derived.Test.YtdahhcigphhfdacAsG
import Derived.Test.YtdahhcigphhfdacCuRb
import Derived.Test.YtdahhcigphhfdacRiE
import Derived.Test.YtdahhcigphhfdacRiU
import Derived.Test.YtdahhcigphhfdacRiAj
import Derived.Test.YtdahhcigphhfdacRiAk
namespace Go.Proofs.Ytdahhcigphhfdac
open Go.RowKit

theorem allR_mem {most : Int} {m : Nat} {p : Rt} (h : p ∈ allR most m) : Pair p.1 p.2 ∧ rtZ p ≤ most := by
  have h1 := (allR_spec most m).2.mem_iff.1 h
  clear h
  induction m with
  | zero => simp [rowsP] at h1
  | succ m ih =>
    unfold rowsP at h1
    rw [List.mem_append] at h1
    rcases h1 with h1 | h1
    · exact ih h1
    · unfold rowP at h1
      simp only [List.mem_map, List.mem_filter] at h1
      obtain ⟨i, ⟨_, h2⟩, rfl⟩ := h1
      unfold inR at h2
      rw [Bool.and_eq_true, decide_eq_true_eq] at h2
      exact ⟨pairB_iff.1 h2.1, h2.2⟩
theorem upR_some {most : Int} {M : List (List Int)} (h : upR most = some M) : ∃ L : List Rt, M = L.map rtL ∧ SortR L ∧ ∀ p ∈ L, Pair p.1 p.2 ∧ rtZ p ≤ most := by
  unfold upR at h
  split at h
  · injection h with h
    exact ⟨_, h.symm, (allR_spec most 72).1, fun p hp => allR_mem hp⟩
  · cases h
theorem upR_parts (most : Int) : ∃ L : List Rt, (upR most).getD [] = L.map rtL ∧ SortR L ∧ (∀ p ∈ L, Pair p.1 p.2 ∧ rtZ p ≤ most) ∧ (cntR most).getD 0 = (L.length : Int) ∧ (cntR most).isSome = (upR most).isSome := by
  unfold cntR
  cases h : upR most with
  | none => exact ⟨[], rfl, List.Pairwise.nil, fun p hp => (by cases hp), rfl, rfl⟩
  | some M =>
    obtain ⟨L, rfl, h1, h2⟩ := upR_some h
    exact ⟨L, rfl, h1, h2, by simp, rfl⟩
theorem ifNotG {c : Prop} [Decidable c] {A B : Prop} (hc : ¬ c) (h : B) : if c then A else B := by rw [if_neg hc]; exact h
theorem rowR {w : World} {a : Option Addr} {c : Nat} {L : List Rt} (h : RG w a c (L.map rtL)) (k : Nat) (hk : k < L.length) : ∃ ad ad2 c2 p, a = some ad ∧ L[k]? = some p ∧ w.cell? (ad.add k) = some (.slice (some ad2) 3 c2) ∧ w.cell? ad2 = some (.int .i64 (rtX p)) ∧
    w.cell? ⟨ad2.block, ad2.off + 1, none⟩ = some (.int .i64 (2 * p.1 * p.2)) ∧ w.cell? ⟨ad2.block, ad2.off + 2, none⟩ = some (.int .i64 (rtZ p)) ∧ Ints w (.slice (some ad2) 3 c2) (rtL p) := by
  obtain ⟨ad, a2, c2, rfl, hc, _, hI⟩ := h.2 k (by simpa using hk)
  have e : (L.map rtL).getD k [] = rtL L[k] := by simp [hk]
  rw [e] at hc hI
  obtain ⟨ad2, rfl, _, h0, h1, h2⟩ := hI.threeG
  exact ⟨ad, ad2, c2, L[k], rfl, List.getElem?_eq_getElem hk, hc, h0, h1, h2, hI⟩
set_option maxRecDepth 100000 in
set_option maxHeartbeats 8000000 in
theorem lawRightTriples_walk (u v : Value) (xs ys : List Int) (w : World) (hx : BytesR w u xs) (hy : BytesR w v ys) :
    Calls Try.prog 3 #[u, v] w fun e w' => e = .returned (.bool true) ∧ Later w w' := by
  have HX := hid hx
  have HY := hid hy
  clear hx hy
  go_enter Try.func3, Try.ntmps3
  go_wp2_with fail
  refine (big_any u v xs ys w HX.out HY.out).mono ?_
  rintro e w0 ⟨⟨b, rfl, _⟩, rfl⟩
  cases b
  · go_wp2_with fail
    refine (drawRightOfPair_any u xs w HX.out).mono ?_
    rintro e w1 ⟨m, n, rfl, hL1⟩
    have HL1 := hid hL1
    clear hL1
    obtain ⟨o, ho⟩ : ∃ o, tripAns m n = o := ⟨_, rfl⟩
    have HO := hid ho
    obtain ⟨z, hz⟩ : ∃ r, o.getD [] = r := ⟨_, rfl⟩
    obtain ⟨t, ht⟩ : ∃ t, o.isSome = t := ⟨_, rfl⟩
    have HI := hid (fun w0 => ints_asG (by have h := implRightOfPair_any m n w0; rw [ho] at h; exact h) hz ht)
    have HS := hid (fun w0 => ints_asG (by have h := specRightOfPair_any m n w0; rw [ho] at h; exact h) hz ht)
    have HZ := hid hz
    have HT := hid ht
    have htt : (t != t) = false := by simp
    clear ho hz ht
    go_wp2_with fail
    refine (HI.out _).mono ?_
    rintro e w2 ⟨a2, c2, rfl, hi2, hc2, hL2⟩
    have HI2 := hid hi2
    have HL2 := hid (HL1.out.trans hL2)
    clear hi2 hc2 hL2
    go_wp2_with fail
    refine (HS.out _).mono ?_
    rintro e w3 ⟨a3, c3, rfl, hi3, hc3, hL3⟩
    have HV := hid (vSame_same _ _ z _ (HI2.out.later hL3) hi3)
    have HI3 := hid (HI2.out.later hL3)
    have HL3 := hid (HL2.out.trans hL3)
    clear hi3 hc3 hL3 HI2 HL2 HL1 HI HS
    go_wp2_with fail
    refine HV.out.mono ?_
    rintro e w4 ⟨rfl, n4, rfl⟩
    have HL4 := hid (HL3.out.trans (Later.drewN w3 n4))
    have HI4 := hid (HI3.out.drewN n4)
    generalize w3.drewN n4 = w4 at HL4 HI4 ⊢
    clear HV HI3 HL3
    go_upto_if 63 with fail
    go_cut [] (fun wx => Later w wx)
    case first =>
      cases t
      · go_wp2_with fail
        go_meet
        case rel => exact HL4.out
      · as_aux_lemma =>
          obtain ⟨q, hq⟩ : ∃ q, o = some q := Option.isSome_iff_exists.1 HT.out
          subst hq
          obtain ⟨hp, hqe⟩ := tripAns_some HO.out
          have hzq := HZ.out
          simp only [Option.getD_some] at hzq
          rw [hqe] at hzq
          have hrp : rightP z = some (m, n) := by rw [← hzq]; exact right_sides hp
          have hin : innerAns z = some (n * (m - n)) := by
            unfold innerAns; rw [hrp, ← hzq]
            show some ((m * m - n * n + 2 * m * n - (m * m + n * n)) / 2) = _
            rw [inner_pair hp]
          obtain ⟨b1, b2, b3, b4, b5, b6, b7⟩ := sides_bd hp
          have hm1 := hp.h1
          have hm2 := hp.h2
          have hm7 := hp.h7
          obtain ⟨X, hX⟩ : ∃ X, m * m - n * n = X := ⟨_, rfl⟩
          obtain ⟨Y, hY⟩ : ∃ X, 2 * m * n = X := ⟨_, rfl⟩
          obtain ⟨Z, hZ⟩ : ∃ X, m * m + n * n = X := ⟨_, rfl⟩
          have hz3 : z = [X, Y, Z] := by rw [← hzq, ← hX, ← hY, ← hZ]; rfl
          subst hz3
          rw [hX, hY, hZ] at b7
          rw [hX] at b1 b2
          rw [hY] at b3 b4
          rw [hZ] at b5 b6
          obtain ⟨D, hD⟩ : ∃ X, m - n = X := ⟨_, rfl⟩
          rw [hD] at hin
          obtain ⟨R, hR⟩ : ∃ X, n * D = X := ⟨_, rfl⟩
          rw [hR] at hin
          have hRb : 0 ≤ R ∧ R ≤ 31622 * 31622 := by rw [← hR]; exact ⟨Int.mul_nonneg (by omega) (by omega), Int.mul_le_mul (by omega) (by omega) (by omega) (by omega)⟩
          have HP := hid (fun w0 (h : Later w4 w0) => pair_asG (o := some (m, n)) (by have h := implPairOfRight_any _ [X, Y, Z] w0 (HI4.out.later h); rw [hrp] at h; exact h) rfl rfl rfl)
          have HN := hid (fun w0 (h : Later w4 w0) => num_as9 (o := some R) (by have h := implInnerRadius_any _ [X, Y, Z] w0 (HI4.out.later h); rw [hin] at h; exact h) rfl rfl)
          have HRI := hid (fun w0 (h : Later w4 w0) => implIsRight_as _ [X, Y, Z] true (by rw [hrp]; rfl) w0 (HI4.out.later h))
          obtain ⟨ad, rfl, _, k0, k1, k2⟩ := HI4.out.threeG
          obtain ⟨P, hP⟩ : ∃ P, X * X = P := ⟨_, rfl⟩
          obtain ⟨Q, hQ⟩ : ∃ P, Y * Y = P := ⟨_, rfl⟩
          obtain ⟨S, hS⟩ : ∃ P, Z * Z = P := ⟨_, rfl⟩
          rw [hP, hQ, hS] at b7
          have hPb : 0 ≤ P := by rw [← hP]; exact Int.mul_nonneg (by omega) (by omega)
          have hQb : 0 ≤ Q := by rw [← hQ]; exact Int.mul_nonneg (by omega) (by omega)
          have hSb : S ≤ 1000000000 * 1000000000 := by rw [← hS]; exact Int.mul_le_mul (by omega) (by omega) (by omega) (by omega)
          have hPw := wrapQ (q := P) (by omega)
          have hQw := wrapQ (q := Q) (by omega)
          have hSw := wrapQ (q := S) (by omega)
          have hDw := wrapQ (q := D) (by omega)
          have hRw := wrapQ (q := R) (by omega)
          have hmm : (m != m) = false := by simp
          have hnn : (n != n) = false := by simp
          have hRR : (R != R) = false := by simp
          have hSS : (S != S) = false := by simp
          clear hX hY hZ b1 b2 b3 b4 b5 b6 hPb hQb hSb hRb hm1 hm2 hm7 hqe hzq hrp hin
          simp only [List.length_cons, List.length_nil] at HP HN HRI ⊢
          go_wp2_with fail
          refine (HP.out _ (Later.refl _)).mono ?_
          rintro e w5 ⟨rfl, hL5⟩
          have HL5 := hid hL5
          clear hL5
          go_wp2_with fail
          refine (HN.out _ HL5.out).mono ?_
          rintro e w6 ⟨rfl, hL6⟩
          have HL6 := hid (HL5.out.trans hL6)
          clear hL6
          go_upto_region 11 with fail
          have kc0 : ∀ p : LaterH w6, p.now.cell? ad = some (.int .i64 X) := fun p => p.later.cell (HL6.out.cell k0)
          have kc1 : ∀ p : LaterH w6, p.now.cell? ⟨ad.block, ad.off + 1, none⟩ = some (.int .i64 Y) := fun p => p.later.cell (HL6.out.cell k1)
          have kc2 : ∀ p : LaterH w6, p.now.cell? ⟨ad.block, ad.off + 2, none⟩ = some (.int .i64 Z) := fun p => p.later.cell (HL6.out.cell k2)
          have HRQ := hid (fun p : LaterH w6 => HRI.out p.now (HL6.out.trans p.later))
          clear k0 k1 k2 HP HN HRI HO HZ HT
          refine wp_region_laterG (by kernel_rfl) (by kernel_rfl) ?_
          repeat
            with_reducible refine wpQuiet_step (fun K hK => ?_)
            go_simp
            first
              | (with_reducible refine hK _ ?_; clear hK K)
              | (apply Exists.intro
                 refine ⟨fun _ => ?_, hK _ ?_⟩
                 (go_at_call 14; with_reducible exact Calls.laterH _ (HRQ.out _))
                 clear hK K)
          with_reducible refine wpQuiet_nil ?_
          intro w7 hw'
          obtain ⟨⟨wq, hLq⟩, hw''⟩ := hw'
          subst hw''
          have HLq := hid (HL4.out.trans (HL6.out.trans hLq))
          clear hLq
          go_wp2_with fail
          go_meet
          case rel => exact HLq.out
    case rest =>
    have HLc := hid hcut
    clear hcut HO HZ HT HL4 HI4
    go_wp2_with fail
    refine (drawPairOfRight_any v ys _ (HY.out.later HLc.out)).mono ?_
    rintro e wd ⟨p, zs, rfl, hO, hlen, hLd⟩
    obtain ⟨p1, c1, rfl, hcap⟩ := hO.shape
    have HI := hid hO.ints
    have HLd := hid (HLc.out.trans hLd)
    clear hO hLd hcap
    obtain ⟨o2, ho2⟩ : ∃ o, rightP zs = o := ⟨_, rfl⟩
    have HO2 := hid ho2
    obtain ⟨a, ha⟩ : ∃ r, (o2.getD (0, 0)).1 = r := ⟨_, rfl⟩
    obtain ⟨b, hb⟩ : ∃ r, (o2.getD (0, 0)).2 = r := ⟨_, rfl⟩
    obtain ⟨t2, ht2⟩ : ∃ t, o2.isSome = t := ⟨_, rfl⟩
    obtain ⟨N, hN⟩ : ∃ N, zs.length = N := ⟨_, rfl⟩
    have HN := hid hN
    rw [hN] at HI hlen ⊢
    have HP := hid (fun w0 (h : Later wd w0) => pair_asG (by have h := implPairOfRight_any _ zs w0 (HI.out.later h); rw [ho2] at h; exact h) ha hb ht2)
    have HQ := hid (fun w0 (h : Later wd w0) => pair_asG (by have h := specPairOfRight_any _ zs w0 (HI.out.later h); rw [ho2] at h; exact h) ha hb ht2)
    have HR := hid (fun w0 (h : Later wd w0) => implIsRight_as _ zs t2 (by rw [ho2]; exact ht2) w0 (HI.out.later h))
    have HA := hid ha
    have HB := hid hb
    have HT := hid ht2
    have htt : (t2 != t2) = false := by simp
    have haa : (a != a) = false := by simp
    have hbb : (b != b) = false := by simp
    clear ho2 ha hb ht2 hN
    go_wp2_with fail
    refine (HP.out _ (Later.refl _)).mono ?_
    rintro e w5 ⟨rfl, hL5⟩
    have HL5 := hid hL5
    clear hL5
    go_wp2_with fail
    refine (HQ.out _ HL5.out).mono ?_
    rintro e w6 ⟨rfl, hL6⟩
    have HL6 := hid (HL5.out.trans hL6)
    clear hL6
    go_wp2_with fail
    refine (HR.out _ HL6.out).mono ?_
    rintro e w7 ⟨rfl, hL7⟩
    have HL7 := hid (HL6.out.trans hL7)
    clear hL7 HL5 HL6
    go_upto_if 163 with fail
    clear htt haa hbb HP HQ HR
    go_cut [] (fun wx => Later w wx)
    case first =>
      cases t2
      · go_wp2_with fail
        go_meet
        case rel => exact HLd.out.trans HL7.out
      · as_aux_lemma =>
          obtain ⟨q, hq⟩ : ∃ q, o2 = some q := Option.isSome_iff_exists.1 HT.out
          subst hq
          obtain ⟨q1, q2⟩ := q
          have ha := HA.out
          have hb := HB.out
          simp only [Option.getD_some] at ha hb
          subst ha hb
          obtain ⟨hp, hzs⟩ := right_some HO2.out
          have HBK := hid (fun w0 => ints_asG (o := some zs) (z := zs) (t := true) (by have h := implRightOfPair_any q1 q2 w0; rw [tripAns_yes hp, ← hzs] at h; exact h) rfl rfl)
          rw [HN.out] at HBK
          clear hp hzs
          go_wp2_with fail
          refine (HBK.out _).mono ?_
          rintro e w8 ⟨a8, c8, rfl, hi8, hc8, hL8⟩
          have HL8 := hid (HL7.out.trans hL8)
          have HVS := hid (vSame_same _ _ zs w8 hi8 (HI.out.later HL8.out))
          clear hi8 hc8 hL8
          go_wp2_with fail
          refine HVS.out.mono ?_
          rintro e w9 ⟨rfl, n9, rfl⟩
          go_wp2_with fail
          go_meet
          case rel => exact HLd.out.trans (HL8.out.trans (Later.drewN _ _))
    case rest =>
    as_aux_lemma =>
    have HLc2 := hid hcut
    clear hcut HO2 HA HB HT HI HN HL7 HLd HLc hlen
    go_wp2_with fail
    refine (drawRightUpTo_any v ys _ (HY.out.later HLc2.out)).mono ?_
    rintro e we ⟨most, rfl, hLe⟩
    have HLe := hid (HLc2.out.trans hLe)
    clear hLe
    obtain ⟨L, hL1, hSo, hMe, hCn, hCs⟩ := upR_parts most
    obtain ⟨t3, ht3⟩ : ∃ t, (upR most).isSome = t := ⟨_, rfl⟩
    rw [ht3] at hCs
    have HI := hid (fun w0 => rows_asG (implRightUpTo_any most w0) hL1 ht3)
    have HS := hid (fun w0 => rows_asG (specRightUpTo_any most w0) hL1 ht3)
    have HC := hid (fun w0 => num_as9 (implCountRight_any most w0) hCn hCs)
    obtain ⟨n, hn⟩ : ∃ n, L.length = n := ⟨_, rfl⟩
    have HN := hid hn
    have HSO := hid hSo
    have HME := hid hMe
    have htt : (t3 != t3) = false := by simp
    have hnn : ((n : Int) != (n : Int)) = false := by simp
    rw [hn] at HC
    simp only [List.length_map, hn] at HI HS
    clear hL1 hSo hMe hCn hCs ht3 hn
    go_wp2_with fail
    refine (HI.out _).mono ?_
    rintro e wf ⟨a5, c5, rfl, hr5, hLf⟩
    have HR5 := hid hr5
    have HLf := hid (HLe.out.trans hLf)
    clear hr5 hLf
    go_wp2_with fail
    refine (HS.out _).mono ?_
    rintro e wg ⟨a6, c6, rfl, hr6, hLg⟩
    have HR6 := hid hr6
    have HRG := hid (HR5.out.later hLg)
    have HLg := hid (HLf.out.trans hLg)
    clear hr6 hLg HR5 HLf
    go_wp2_with fail
    refine (HC.out _).mono ?_
    rintro e wh ⟨rfl, hLh⟩
    have HRH := hid (HRG.out.later hLh)
    have HVS := hid (vSameLists_same (.slice a5 n c5) (.slice a6 n c6) (L.map rtL) wh (by have h := HRH.out.1; rw [List.length_map, HN.out] at h; exact h) (by have h := (HR6.out.later hLh).1; rw [List.length_map, HN.out] at h; exact h))
    have HLh := hid (HLg.out.trans hLh)
    clear hLh HRG HLg HR6 HI HS HC HLe HLc2
    go_wp2_with fail
    refine HVS.out.mono ?_
    rintro e wi ⟨rfl, n9, rfl⟩
    have HRI := hid (HRH.out.later (Later.drewN wh n9))
    have HLi := hid (HLh.out.trans (Later.drewN wh n9))
    generalize wh.drewN n9 = wi at HRI HLi ⊢
    clear HVS HRH HLh
    have hnB : n ≤ 9223372036854775807 := by obtain ⟨_, _, _, h, _⟩ := HRI.out.1; rw [List.length_map, HN.out] at h; exact h
    go_wp2_with fail
    go_loopw [217] (fun i wr => ∃ k : Nat, k ≤ n ∧ i = .int .i64 k ∧ Later wi wr) (fun i _ => n - (intOf i).toNat)
    case atStart => exact ⟨0, Nat.zero_le _, rfl, Later.refl _⟩
    case round =>
      as_aux_lemma =>
      obtain ⟨k, hk, rfl, hLr⟩ := hrel
      have HLr := hid hLr
      clear hLr
      by_cases hlt : k < n
      · have hltI : (k : Int) < (n : Int) := by omega
        obtain ⟨ad, ad2, c2, p, rfl, hLk, hcell, k0, k1, k2, hI⟩ := rowR (HRI.out.later HLr.out) k (by rw [HN.out]; exact hlt)
        have HLK := hid hLk
        obtain ⟨hp, hpz⟩ := HME.out p (List.mem_of_getElem? hLk)
        have HRT := hid (fun u : LaterH wr => implIsRight_as (.slice (some ad2) 3 c2) (rtL p) true (by rw [show rightP (rtL p) = some (p.1, p.2) from right_sides hp]; rfl) u.now (hI.later u.later))
        obtain ⟨X, hX⟩ : ∃ X, rtX p = X := ⟨_, rfl⟩
        obtain ⟨Y, hY⟩ : ∃ X, 2 * p.1 * p.2 = X := ⟨_, rfl⟩
        obtain ⟨Z, hZ⟩ : ∃ X, rtZ p = X := ⟨_, rfl⟩
        have HXX := hid hX
        have HZZ := hid hZ
        rw [hX] at k0
        rw [hY] at k1
        rw [hZ] at k2 hpz
        have hzm : ¬ most < Z := by omega
        clear hX hY hZ hp hLk hI hpz
        rcases Nat.eq_zero_or_pos k with hk0 | hk0
        · subst hk0
          replace hcell : wr.cell? ad = some (.slice (some ad2) 3 c2) := by simpa [Addr.add] using hcell
          go_wp2_with fail
          have q0 : ∀ u : LaterH wr, u.now.cell? ad2 = some (.int .i64 X) := fun u => u.later.cell k0
          have q2 : ∀ u : LaterH wr, u.now.cell? ⟨ad2.block, ad2.off + 2, none⟩ = some (.int .i64 Z) := fun u => u.later.cell k2
          clear k0 k1 k2 hcell
          as_aux_lemma =>
          refine wp_region_laterG (by kernel_rfl) (by kernel_rfl) ?_
          repeat
            with_reducible refine wpQuiet_step (fun K hK => ?_)
            go_simp
            first
              | (with_reducible refine hK _ ?_; clear hK K)
              | (with_reducible refine ifNotG ?_ ?_
                 · intro h; cases h
                 with_reducible refine hK _ ?_
                 clear hK K)
              | (apply Exists.intro
                 refine ⟨fun _ => ?_, hK _ ?_⟩
                 (go_at_call 14; with_reducible exact Calls.laterH _ (HRT.out _))
                 clear hK K)
          with_reducible refine wpQuiet_nil ?_
          intro w7 hw'
          obtain ⟨⟨wq, hLq⟩, hw''⟩ := hw'
          subst hw''
          have HLq := hid (HLr.out.trans hLq)
          clear hLq
          go_wp2_with fail
          go_roundw
          case rel => exact ⟨1, hlt, by go_num, HLq.out⟩
          case measure => simp [intOf]; omega
        · obtain ⟨j, hj⟩ : ∃ j, k = j + 1 := ⟨k - 1, by omega⟩
          have HJ := hid hj
          have hk1 : (k : Int) - 1 = (j : Int) := by omega
          have hk0I : (0 : Int) < (k : Int) := by omega
          have hj0 : (0 : Int) ≤ (j : Int) := by omega
          have hjn : (j : Int) < (n : Int) := by omega
          have hjw := wrapQ (q := (j : Int)) (by omega)
          obtain ⟨ad', ad3, c3, p', e', hLj, hcellj, l0, l1, l2, _⟩ := rowR (HRI.out.later HLr.out) j (by rw [HN.out]; omega)
          obtain rfl : ad = ad' := by simpa using e'
          have hbef : befR p' p = true := by
            have h := List.pairwise_iff_getElem.1 HSO.out j k (by have := HN.out; omega) (by have := HN.out; omega) (by omega)
            have e1 := hLj
            have e2 := HLK.out
            rw [List.getElem?_eq_getElem (by have := HN.out; omega)] at e1 e2
            injection e1 with e1
            injection e2 with e2
            rw [e1, e2] at h
            exact h
          rw [befR_iff, HXX.out, HZZ.out] at hbef
          obtain ⟨X', hX'⟩ : ∃ X, rtX p' = X := ⟨_, rfl⟩
          obtain ⟨Z', hZ'⟩ : ∃ X, rtZ p' = X := ⟨_, rfl⟩
          rw [hX', hZ'] at hbef
          rw [hX'] at l0
          rw [hZ'] at l2
          clear hX' hZ' hLj e' l1 hj
          go_wp2_with fail
          have q0 : ∀ u : LaterH wr, u.now.cell? ad2 = some (.int .i64 X) := fun u => u.later.cell k0
          have q2 : ∀ u : LaterH wr, u.now.cell? ⟨ad2.block, ad2.off + 2, none⟩ = some (.int .i64 Z) := fun u => u.later.cell k2
          have qj : ∀ u : LaterH wr, u.now.cell? (ad.add j) = some (.slice (some ad3) 3 c3) := fun u => u.later.cell hcellj
          have qj0 : ∀ u : LaterH wr, u.now.cell? ad3 = some (.int .i64 X') := fun u => u.later.cell l0
          have qj2 : ∀ u : LaterH wr, u.now.cell? ⟨ad3.block, ad3.off + 2, none⟩ = some (.int .i64 Z') := fun u => u.later.cell l2
          clear k0 k1 k2 hcell l0 l2 hcellj
          have hZle : ¬ Z < Z' := by omega
          rcases hbef with hzlt | ⟨hze, hxlt⟩
          · have hne : (Z' == Z) = false := by simp; omega
            clear hzlt
            as_aux_lemma =>
            refine wp_region_laterG (by kernel_rfl) (by kernel_rfl) ?_
            repeat
              with_reducible refine wpQuiet_step (fun K hK => ?_)
              go_simp
              first
                | (with_reducible refine hK _ ?_; clear hK K)
                | (with_reducible refine ifNotG ?_ ?_
                   · intro h; cases h
                   with_reducible refine hK _ ?_
                   clear hK K)
                | (apply Exists.intro
                   refine ⟨fun _ => ?_, hK _ ?_⟩
                   (go_at_call 14; with_reducible exact Calls.laterH _ (HRT.out _))
                   clear hK K)
            with_reducible refine wpQuiet_nil ?_
            intro w7 hw'
            obtain ⟨⟨wq, hLq⟩, hw''⟩ := hw'
            subst hw''
            have HLq := hid (HLr.out.trans hLq)
            clear hLq
            go_wp2_with fail
            go_roundw
            case rel => exact ⟨k + 1, hlt, by go_num, HLq.out⟩
            case measure => simp [intOf]; omega
          · subst hze
            have hne : (Z' == Z') = true := by simp
            have hxl : ¬ X ≤ X' := by omega
            clear hxlt
            as_aux_lemma =>
            refine wp_region_laterG (by kernel_rfl) (by kernel_rfl) ?_
            repeat
              with_reducible refine wpQuiet_step (fun K hK => ?_)
              go_simp
              first
                | (with_reducible refine hK _ ?_; clear hK K)
                | (with_reducible refine ifNotG ?_ ?_
                   · intro h; cases h
                   with_reducible refine hK _ ?_
                   clear hK K)
                | (apply Exists.intro
                   refine ⟨fun _ => ?_, hK _ ?_⟩
                   (go_at_call 14; with_reducible exact Calls.laterH _ (HRT.out _))
                   clear hK K)
            with_reducible refine wpQuiet_nil ?_
            intro w7 hw'
            obtain ⟨⟨wq, hLq⟩, hw''⟩ := hw'
            subst hw''
            have HLq := hid (HLr.out.trans hLq)
            clear hLq
            go_wp2_with fail
            go_roundw
            case rel => exact ⟨k + 1, hlt, by go_num, HLq.out⟩
            case measure => simp [intOf]; omega
      · go_wp2_with fail
        go_ret
        exact ⟨rfl, HLi.out.trans HLr.out⟩
  · go_wp2_with fail
    go_ret
    exact ⟨rfl, Later.refl _⟩
end Go.Proofs.Ytdahhcigphhfdac
