/- The walk of the descent of four squares in the model. -/
import Derived.Test.YtofmmegpadojlaaSqCF
namespace Go.Proofs.Ytofmmegpadojlaa
open Go.RowKit

theorem startD4 {p : Nat} (hp : Sq.Prim p) (h : p ≤ 2000) : ∃ (a b m : Nat), startL p = [(a : Int), (b : Int), 1, 0] ∧ Sq.D4 p ⟨a, b, 1, 0⟩ m ∧ m < p := by
  obtain ⟨a, b, _, _, ha, hb, hP, hS, _⟩ := fA_is hp h
  have h2 := hp.1
  unfold fourP at hP
  rw [beq_iff_eq] at hP
  obtain ⟨m, hm⟩ := Nat.dvd_of_mod_eq_zero hP
  have hlt : m < p := by
    refine Nat.not_le.1 fun hh => ?_
    have h4 := Nat.mul_le_mul_left p hh
    have h5 : a * a ≤ (p / 2) * (p / 2) := Nat.mul_le_mul ha ha
    have h6 : b * b ≤ (p / 2) * (p / 2) := Nat.mul_le_mul (by omega) (by omega)
    have h7 : (2 * (p / 2)) * (2 * (p / 2)) ≤ p * p := Nat.mul_le_mul (by omega) (by omega)
    have h8 : (2 * (p / 2)) * (2 * (p / 2)) = 4 * ((p / 2) * (p / 2)) := by grind
    have h9 : 2 * 2 ≤ p * p := Nat.mul_le_mul h2 h2
    omega
  refine ⟨a, b, m, hS, ⟨by simp only; omega, by simp only; omega, by simp only; omega, by simp only; omega, ?_, by omega⟩, hlt⟩
  show (a : Int) * a + b * b + 1 * 1 + 0 * 0 = m * p
  rw [← Int.natCast_mul, ← Int.natCast_mul, ← Int.natCast_mul, Nat.mul_comm m p, ← hm]
  omega
def fourL (p : Nat) : List (List Int) := match startL p with
  | [a, b, c, d] => run4 p ((a * a + b * b + c * c + d * d) / p).toNat ⟨a, b, c, d⟩ ((a * a + b * b + c * c + d * d) / p)
  | _ => []
def fourAns (p : Int) : Option (List (List Int)) := if primUp p 2000 = true then some (fourL p.toNat) else none
theorem fourL_is {p a b m : Nat} (hp : 0 < p) (h : startL p = [(a : Int), (b : Int), 1, 0]) (hD : Sq.D4 p ⟨a, b, 1, 0⟩ m) : fourL p = run4 p m ⟨a, b, 1, 0⟩ m := by
  unfold fourL
  rw [h]
  have e : (a : Int) * a + b * b + 1 * 1 + 0 * 0 = m * p := hD.eq
  simp only
  rw [e, Int.mul_ediv_cancel _ (by omega), Int.toNat_natCast]
theorem own4_any (v : Value) (zs : List Int) (w : World) (hl : zs.length = 4) (h : Ints w v zs) : Calls Try.prog 77 #[v] w fun e w' => MadeInts w zs e w' := by
  obtain ⟨a, cap, rfl, _, hc⟩ := id h
  obtain ⟨ad, rfl, _⟩ := hc 0 (by omega)
  exact l1OwnH_any ad zs.length cap zs w rfl (by omega) h
theorem take_at {zs : List Int} {k : Nat} {z : Int} (h : zs[k]? = some z) : zs.take (k + 1) = zs.take k ++ [z] := by rw [List.take_add_one, h]; rfl
set_option maxRecDepth 20000 in
set_option maxHeartbeats 8000000 in
theorem specFourRun_any (p : Nat) (w : World) (hp : Sq.Prim p) (hp2 : p ≤ 2000) (hok : primUp p 2000 = true) :
    Calls Try.prog 22 #[.int .i64 p] w fun e w' => RowsAns w (some (fourL p)) e w' := by
  obtain ⟨A, C, m, hS, hD, hmp⟩ := startD4 hp hp2
  have HST := hid (fun w => sqStart_any p w hp hp2)
  have HP := hid hok
  have hp1 := hp.1
  have HPR := hid (prim_dvd hp)
  have HT := hid (show run4 p m ⟨A, C, 1, 0⟩ m = fourL p from (fourL_is (by omega) hS hD).symm)
  rw [hS] at HST
  have z0 : ¬ (p : Int) = 0 := by omega
  obtain ⟨T, hT⟩ : ∃ T, fourL p = T := ⟨_, rfl⟩
  rw [hT] at HT ⊢
  obtain ⟨A1, hA1⟩ : ∃ A1 : Int, (A : Int) = A1 := ⟨_, rfl⟩
  obtain ⟨A2, hA2⟩ : ∃ A2 : Int, (C : Int) = A2 := ⟨_, rfl⟩
  rw [hA1, hA2] at HST hD HT
  have hbd := hD.bd (by omega) (by omega)
  have HSU := hid (fun v w (h : Ints w v [A1, A2, 1, 0]) => sqSum_any v [A1, A2, 1, 0] w rfl (by simp; omega) h)
  rw [sqTo_4] at HSU
  have hq : (A1 * A1 + A2 * A2 + 1 * 1 + 0 * 0).tdiv p = m := by rw [show A1 * A1 + A2 * A2 + 1 * 1 + 0 * 0 = m * p from hD.eq]; exact Int.mul_tdiv_cancel _ (by omega)
  obtain ⟨S, hSS⟩ : ∃ S, A1 * A1 + A2 * A2 + 1 * 1 + 0 * 0 = S := ⟨_, rfl⟩
  rw [hSS] at HSU hq
  have HD := hid hD
  obtain ⟨z0s, hz0s⟩ : ∃ l, [A1, A2, 1, 0] = l := ⟨_, rfl⟩
  have HZ0 := hid hz0s
  have HZL := hid (show z0s.length = 4 by rw [← hz0s]; rfl)
  rw [hz0s] at HST HSU
  clear hS hD hok hp hSS hA1 hA2 hT hbd hz0s
  go_enter Try.func22, Try.ntmps22
  go_wp2_with (first | (go_at_call 59; refine (sqGiven_as p 2000 _ _ (by omega) HP.out).mono ?_; rintro e w2 ⟨rfl, rfl⟩) | (go_at_call 75; refine (HST.out _).mono ?_; rintro e w2 ⟨v2, rfl, hO2, hL2⟩; have HO2 := hid hO2; have HL2 := hid hL2; clear hO2 hL2) | (go_at_call 76; refine (HSU.out _ _ HO2.out.ints).mono ?_; rintro e w3 ⟨rfl, rfl⟩))
  refine (own4_any _ _ _ HZL.out HO2.out.ints).mono ?_
  rintro e w3 ⟨v3, rfl, hO3, hL3⟩
  have HO3 := hid hO3
  have HL3 := hid hL3
  clear hO3 hL3
  have HZ6 := hid (show z0s.length ≤ 1000000 by rw [HZL.out]; omega)
  go_wp2_with (at_builtin; refine wpList_push1 (by rfl) _ _ (by rfl) w2.heap.size w3 _ v3 z0s m (by rfl) HL3.out.size HO3.out HZ6.out (by rfl) rfl ?_)
  intro g4 n4 w4 hO4 hG4 _
  have HL4 := hid (show Later w2 w4 from HL3.out.grown hG4 HL3.out.size (fun b hb => (HO3.out.1.lt b hb).1))
  have HO4 := hid hO4
  have HV4 := hid ((HO2.out.wide (Nat.le_refl _) (Nat.le_refl _)).later HL4.out)
  have HR5 := hid ((OwnRows.oneH (HL2.out.trans HL4.out).size (hO4.wide HL2.out.size (Nat.le_refl _))).wide (Nat.le_refl _) (show w4.heap.size + 1 ≤ (w4.alloc (.cells #[.slice (some ⟨g4, 0, none⟩) (z0s.length + 1) n4] 33)).heap.size by rw [World.size_alloc]; exact Nat.le_refl _))
  have HLw := hid ((HL2.out.trans HL4.out).trans (Later.alloc w4 (.cells #[.slice (some ⟨g4, 0, none⟩) (z0s.length + 1) n4] 33)))
  have HV5 := hid (((HV4.out.later (Later.alloc w4 (.cells #[.slice (some ⟨g4, 0, none⟩) (z0s.length + 1) n4] 33)))).wide (Nat.le_refl _) (Nat.le_trans HL4.out.size (Later.alloc w4 (.cells #[.slice (some ⟨g4, 0, none⟩) (z0s.length + 1) n4] 33)).size))
  clear hO4 hG4 HL3 HO3 HL2 HO2 HO4 HV4 hq
  go_wp2_with fail
  generalize w4.alloc (.cells #[.slice (some ⟨g4, 0, none⟩) (z0s.length + 1) n4] 33) = w5 at HLw HV5 HR5 ⊢
  go_loopw [4, 5, 6] (fun v x o wr => ∃ (a b c d : Int) (k f : Nat) (L : List (List Int)), x = .int .i64 k ∧ Sq.D4 p ⟨a, b, c, d⟩ k ∧ OwnInts w.heap.size wr.heap.size wr v [a, b, c, d] ∧ OwnRows w.heap.size wr.heap.size wr o (L ++ [[a, b, c, d, (k : Int)]]) ∧ L ++ run4 p f ⟨a, b, c, d⟩ k = T ∧ k ≤ f ∧ L.length + k ≤ 1000000 ∧ Later w wr)
    (fun _ x _ _ => (intOf x).toNat)
  case atStart => exact ⟨A1, A2, 1, 0, m, m, [], rfl, HD.out, by rw [HZ0.out]; exact HV5.out, by have h := HR5.out; rw [← HZ0.out] at h; exact h, HT.out, Nat.le_refl _, by simp; omega, HLw.out⟩
  case round =>
    rename World => W0
    clear HLw HV5 HR5 HT HD
    obtain ⟨a, b, c, d, k, f, L, rfl, hD, hV, hO, hT, hkf, hlk, hL⟩ := hrel
    have HL := hid hL
    have HO := hid hO
    have HT := hid hT
    have HV := hid hV
    obtain ⟨o1, o2, rfl, _⟩ := hO.shape
    clear hO hL hT hV
    by_cases hk1 : (k : Int) > 1
    · have hbd := hD.bd (by omega) (by omega)
      obtain ⟨r, hDr, hr2, hr0⟩ := hD.step (by omega) (by omega) HPR.out
      obtain ⟨q, rfl⟩ : ∃ q : Nat, r = (q : Int) := ⟨r.toNat, by omega⟩
      have HT2 := hid (run4_go hk1 (show (k : Int) ≤ f by omega) hDr (by omega))
      have hkb : 1 ≤ (k : Int) ∧ (k : Int) ≤ 2000 := by omega
      have hun := near_bd4 a k hkb
      have hvn := near_bd4 b k hkb
      have hsn := near_bd4 c k hkb
      have htn := near_bd4 d k hkb
      obtain ⟨x1, x2, x3, x4, hmq, hxb, hst⟩ := step4 (show -2000 ≤ a ∧ a ≤ 2000 by omega) (show -2000 ≤ b ∧ b ≤ 2000 by omega) (show -2000 ≤ c ∧ c ≤ 2000 by omega) (show -2000 ≤ d ∧ d ≤ 2000 by omega) hkb
      have HF4 := hid (fun v0 v1 w (h0 : Ints w v0 [a, b, c, d]) (h1 : Ints w v1 [Sq.near a k, Sq.near b k, Sq.near c k, Sq.near d k]) => sqFour_any v0 v1 a b c d (Sq.near a k) (Sq.near b k) (Sq.near c k) (Sq.near d k) w (by unfold In6; omega) (by unfold In6; omega) (by unfold In6; omega) (by unfold In6; omega) (by unfold In6; omega) (by unfold In6; omega) (by unfold In6; omega) (by unfold In6; omega) h0 h1)
      rw [hmq] at HF4
      simp only [l4] at HF4
      rw [hst] at hDr HT2
      have hbs := hDr.bd (by omega) (by omega)
      have HDr := hid hDr
      have HQ := hid (show L.length + 1 + q ≤ 1000000 ∧ q ≤ f - 1 ∧ q < k by omega)
      have HE := hid (show (L ++ [[a, b, c, d, (k : Int)]]) ++ run4 p (f - 1) ⟨Sq.iabs x1 / k, Sq.iabs x2 / k, Sq.iabs x3 / k, Sq.iabs x4 / k⟩ q = T by rw [← HT.out, HT2.out]; simp)
      have HSU2 := hid (fun v w (h : Ints w v [Sq.iabs x1 / k, Sq.iabs x2 / k, Sq.iabs x3 / k, Sq.iabs x4 / k]) => sqSum_any v [Sq.iabs x1 / k, Sq.iabs x2 / k, Sq.iabs x3 / k, Sq.iabs x4 / k] w rfl (by simp only [List.mem_cons, List.not_mem_nil, or_false]; intro z hz; rcases hz with rfl | rfl | rfl | rfl <;> omega) h)
      rw [sqTo_4] at HSU2
      have HQ2 := hid (show (Sq.iabs x1 / k * (Sq.iabs x1 / k) + Sq.iabs x2 / k * (Sq.iabs x2 / k) + Sq.iabs x3 / k * (Sq.iabs x3 / k) + Sq.iabs x4 / k * (Sq.iabs x4 / k)).tdiv p = q by rw [show Sq.iabs x1 / k * (Sq.iabs x1 / k) + Sq.iabs x2 / k * (Sq.iabs x2 / k) + Sq.iabs x3 / k * (Sq.iabs x3 / k) + Sq.iabs x4 / k * (Sq.iabs x4 / k) = q * p from hDr.eq]; exact Int.mul_tdiv_cancel _ (by omega))
      generalize Sq.iabs x1 / k * (Sq.iabs x1 / k) + Sq.iabs x2 / k * (Sq.iabs x2 / k) + Sq.iabs x3 / k * (Sq.iabs x3 / k) + Sq.iabs x4 / k * (Sq.iabs x4 / k) = S2 at HSU2 HQ2
      have HNE := hid (fun z (hz : z ∈ [a, b, c, d]) w => sqNear_any z k w (by simp only [List.mem_cons, List.not_mem_nil, or_false] at hz; rcases hz with rfl | rfl | rfl | rfl <;> omega) ⟨hkb.1, by omega⟩)
      have HAB := hid (fun z (hz : z ∈ [x1, x2, x3, x4]) w => absS_any z w ⟨by have := hxb z hz; omega, by have := hxb z hz; omega⟩)
      have HXB := hid hxb
      obtain ⟨zs, hzs⟩ : ∃ zs, [a, b, c, d] = zs := ⟨_, rfl⟩
      have HZ := hid hzs
      have HZL := hid (show zs.length = 4 by rw [← hzs]; rfl)
      have HM1 := hid (show (zs.take 4).map (Sq.near · k) = [Sq.near a k, Sq.near b k, Sq.near c k, Sq.near d k] by rw [← hzs]; rfl)
      obtain ⟨xs, hxs⟩ : ∃ xs, [x1, x2, x3, x4] = xs := ⟨_, rfl⟩
      have HXL := hid (show xs.length = 4 by rw [← hxs]; rfl)
      have HM2 := hid (show (xs.take 4).map (fun x => Sq.iabs x / k) = [Sq.iabs x1 / k, Sq.iabs x2 / k, Sq.iabs x3 / k, Sq.iabs x4 / k] by rw [← hxs]; rfl)
      rw [hxs] at HF4 HAB HXB
      rw [hzs] at HV HNE HF4
      obtain ⟨us, hus⟩ : ∃ us, [Sq.near a k, Sq.near b k, Sq.near c k, Sq.near d k] = us := ⟨_, rfl⟩
      rw [hus] at HM1 HF4
      obtain ⟨ss, hss⟩ : ∃ ss, [Sq.iabs x1 / k, Sq.iabs x2 / k, Sq.iabs x3 / k, Sq.iabs x4 / k] = ss := ⟨_, rfl⟩
      have HSS := hid hss
      have HSL := hid (show ss.length = 4 by rw [← hss]; rfl)
      rw [hss] at HM2 HSU2
      have HLN := hid (show (L ++ [[a, b, c, d, (k : Int)]]).length ≤ 1000000 by simp; omega)
      have hl : (L ++ [[a, b, c, d, (k : Int)]]).length = L.length + 1 := by simp
      obtain ⟨LL, hLL⟩ : ∃ LL, L ++ [[a, b, c, d, (k : Int)]] = LL := ⟨_, rfl⟩
      rw [hLL] at HE hl HLN HO
      rw [hLL]
      have HLl := hid hl
      obtain ⟨pv, nv, rfl, _, hcv⟩ := HV.out.ints
      have HCV := hid hcv
      rw [HZL.out] at HV HCV ⊢
      have hkz : ¬ (k : Int) = 0 := by omega
      clear hD hbd hDr hr2 hr0 HT HT2 hun hvn hsn htn hmq hxb hst hbs hzs hxs hus hss hLL hl hcv hlk hkf
      go_wp2_with fail
      go_loopw [7, 32] (fun u i wj => ∃ j : Nat, j ≤ 4 ∧ i = .int .i64 j ∧ OwnInts W0.heap.size wj.heap.size wj u ((zs.take j).map (Sq.near · k)) ∧ Later W0 wj) (fun _ i _ => 4 - (intOf i).toNat)
      case atStart => exact ⟨0, Nat.zero_le _, rfl, ownInts_nil9 _ _ _, Later.refl _⟩
      case round =>
        obtain ⟨j, hj, rfl, hU, hLj⟩ := hrel
        have HLj := hid hLj
        have HU := hid hU
        obtain ⟨pu, nu, rfl, _⟩ := hU.shape
        clear hU hLj
        by_cases hlt : (j : Int) < 4
        · have hj4 : j < 4 := by omega
          obtain ⟨ad, rfl, hcell⟩ := HCV.out j hj4
          obtain ⟨z, hz⟩ : ∃ z, zs[j]? = some z := ⟨zs[j]'(by rw [HZL.out]; omega), by simp⟩
          have hg : zs.getD j 0 = z := by rw [List.getD_eq_getElem?_getD, hz]; rfl
          rw [hg] at hcell
          have hcr := HLj.out.cell hcell
          have HN1 := hid (HNE.out z (List.mem_of_getElem? hz))
          have HE1 := hid (show (zs.take (j + 1)).map (Sq.near · k) = (zs.take j).map (Sq.near · k) ++ [Sq.near z k] by rw [take_at hz, List.map_append]; rfl)
          have hEl : ((zs.take j).map (Sq.near · k)).length = j := by rw [List.length_map, List.length_take, HZL.out]; omega
          obtain ⟨E, hE⟩ : ∃ E, (zs.take j).map (Sq.near · k) = E := ⟨_, rfl⟩
          obtain ⟨N, hN⟩ : ∃ N, Sq.near z k = N := ⟨_, rfl⟩
          rw [hE] at HU HE1 hEl ⊢
          rw [hN] at HN1 HE1
          have HEL := hid (show E.length ≤ 1000000 by omega)
          clear hz hg hcell hE hN hEl
          go_wp2_with (first
            | (go_at_call 61; refine (HN1.out _).mono ?_; rintro e w2 ⟨rfl, rfl⟩)
            | (at_builtin; refine wpList_push1 (by rfl) _ _ (by rfl) W0.heap.size wr _ _ E N (by rfl) HLj.out.size HU.out HEL.out (by rfl) rfl ?_))
          intro g8 c8 w8 hO8 hG8 _
          have HO8 := hid hO8
          have HL8 := hid (show Later W0 w8 from HLj.out.grown hG8 HLj.out.size (fun b hb => (HU.out.1.lt b hb).1))
          clear hO8 hG8
          go_wp2_with fail
          go_roundw
          case rel => exact ⟨j + 1, by omega, by go_num, by rw [HE1.out]; exact HO8.out, HL8.out⟩
          case measure => simp [intOf]; omega
        · have hje : j = 4 := by omega
          subst hje
          rw [HM1.out] at HU ⊢
          rename World => W2
          clear HCV HNE HM1
          go_wp2_with fail
          refine (HF4.out _ _ _ (HV.out.later HLj.out).ints HU.out.ints).mono ?_
          rintro e W3 ⟨v5, rfl, hO5, hL5⟩
          have HL3 := hid (HLj.out.trans hL5)
          obtain ⟨p5, n5, rfl, _, hc5⟩ := hO5.ints
          have HC5 := hid hc5
          rw [HXL.out] at HC5 ⊢
          clear hO5 hL5 hc5 HU HLj HF4
          go_wp2_with fail
          go_loopw [10, 47] (fun u i wj => ∃ j : Nat, j ≤ 4 ∧ i = .int .i64 j ∧ OwnInts W3.heap.size wj.heap.size wj u ((xs.take j).map (fun x => Sq.iabs x / k)) ∧ Later W3 wj) (fun _ i _ => 4 - (intOf i).toNat)
          case atStart => exact ⟨0, Nat.zero_le _, rfl, ownInts_nil9 _ _ _, Later.refl _⟩
          case round =>
            obtain ⟨j, hj, rfl, hU, hLj⟩ := hrel
            have HLj := hid hLj
            have HU := hid hU
            obtain ⟨pw, nw, rfl, _⟩ := hU.shape
            clear hU hLj
            by_cases hlt : (j : Int) < 4
            · have hj4 : j < 4 := by omega
              obtain ⟨ad, rfl, hcell⟩ := HC5.out j hj4
              obtain ⟨z, hz⟩ : ∃ z, xs[j]? = some z := ⟨xs[j]'(by rw [HXL.out]; omega), by simp⟩
              have hg : xs.getD j 0 = z := by rw [List.getD_eq_getElem?_getD, hz]; rfl
              rw [hg] at hcell
              have hcr := HLj.out.cell hcell
              have HA1 := hid (HAB.out z (List.mem_of_getElem? hz))
              have hzb := iabs_bd (HXB.out z (List.mem_of_getElem? hz))
              have HE1 := hid (show (xs.take (j + 1)).map (fun x => Sq.iabs x / k) = (xs.take j).map (fun x => Sq.iabs x / k) ++ [Sq.iabs z / k] by rw [take_at hz, List.map_append]; rfl)
              have hEl : ((xs.take j).map (fun x => Sq.iabs x / k)).length = j := by rw [List.length_map, List.length_take, HXL.out]; omega
              obtain ⟨E, hE⟩ : ∃ E, (xs.take j).map (fun x => Sq.iabs x / k) = E := ⟨_, rfl⟩
              obtain ⟨y, hy⟩ : ∃ y, Sq.iabs z = y := ⟨_, rfl⟩
              rw [hy] at HA1 HE1 hzb
              obtain ⟨N, hN⟩ : ∃ N, y / (k : Int) = N := ⟨_, rfl⟩
              have hq1 : y.tdiv k = N := by rw [quoI hzb.1, hN]
              have hNb : 0 ≤ N ∧ N ≤ 1000000000 := by
                rw [← hN]
                exact ⟨Int.ediv_nonneg hzb.1 (by omega), Int.le_trans (Int.ediv_le_self _ hzb.1) hzb.2⟩
              rw [hE] at HU HE1 hEl ⊢
              rw [hN] at HE1
              have HEL := hid (show E.length ≤ 1000000 by omega)
              clear hz hg hcell hE hEl hy
              go_wp2_with (first
                | (go_at_call 62; refine (HA1.out _).mono ?_; rintro e w2 ⟨rfl, rfl⟩)
                | (at_builtin; refine wpList_push1 (by rfl) _ _ (by rfl) W3.heap.size wr _ _ E N (by rfl) HLj.out.size HU.out HEL.out (by rfl) rfl ?_))
              intro g8 c8 w8 hO8 hG8 _
              have HO8 := hid hO8
              have HL8 := hid (show Later W3 w8 from HLj.out.grown hG8 HLj.out.size (fun b hb => (HU.out.1.lt b hb).1))
              clear hO8 hG8
              go_wp2_with fail
              go_roundw
              case rel => exact ⟨j + 1, by omega, by go_num, by rw [HE1.out]; exact HO8.out, HL8.out⟩
              case measure => simp [intOf]; omega
            · have hje : j = 4 := by omega
              subst hje
              rw [HM2.out] at HU ⊢
              rename World => W4
              clear HC5 HAB HXB HM2
              have HLW := hid (HL.out.trans (HL3.out.trans HLj.out))
              have HO4 := hid (show OwnRows w.heap.size W4.heap.size W4 (.slice o1 LL.length o2) LL from (HO.out.later (HL3.out.trans HLj.out)).wide (Nat.le_refl _) (HL3.out.trans HLj.out).size)
              have HV4 := hid (show OwnInts w.heap.size W4.heap.size W4 (.slice pw ss.length nw) ss from HU.out.wide (HL.out.trans HL3.out).size (Nat.le_refl _))
              have hq2 := HQ2.out
              have hqk := HQ.out.2.2
              clear HU HLj HL3 HO HV HL HQ2
              go_wp2_with fail
              refine (HSU2.out _ _ HV4.out.ints).mono ?_
              rintro e w2 ⟨rfl, rfl⟩
              go_wp2_with fail
              refine (own4_any _ _ _ HSL.out HV4.out.ints).mono ?_
              rintro e w6 ⟨v6, rfl, hO6, hL6⟩
              have HO6 := hid hO6
              have HL6 := hid hL6
              have HSL6 := hid (show ss.length ≤ 1000000 by rw [HSL.out]; omega)
              clear hO6 hL6 hq2
              go_wp2_with (at_builtin; refine wpList_push1 (by rfl) _ _ (by rfl) W4.heap.size w6 _ v6 ss q (by rfl) HL6.out.size HO6.out HSL6.out (by rfl) rfl ?_)
              intro g7 c7 w7 hO7 hG7 _
              have HL7 := hid (show Later W4 w7 from HL6.out.grown hG7 HL6.out.size (fun b hb => (HO6.out.1.lt b hb).1))
              have HO7 := hid hO7
              have HR7 := hid (HO4.out.later HL7.out)
              clear hO7 hG7 HL6 HO6
              go_wp2_with (at_builtin; refine wpList_pushR (by rfl) _ _ (by rfl) w.heap.size W4.heap.size w7 _ (.slice o1 LL.length o2) _ _ _ LL (ss ++ [(q : Int)]) (by rfl) HLW.out.size HL7.out.size HR7.out HO7.out HLN.out (by rfl) rfl ?_)
              intro g8 c8 w8 hO8 hG8 _
              have HO8 := hid hO8
              have HL8 := hid (show Later w w8 from (HLW.out.trans HL7.out).grown hG8 (HLW.out.trans HL7.out).size (fun b hb => by
                obtain ⟨us, _, hus, _⟩ := HR7.out.partsH
                exact (hus.lt b hb).1))
              have HV8 := hid (show OwnInts w.heap.size w8.heap.size w8 (.slice pw ss.length nw) ss from by
                obtain ⟨us, _, hus, _⟩ := HR7.out.partsH
                exact ((HV4.out.later HL7.out).keptH hus hG8).wide (Nat.le_refl _) (Nat.le_trans HL7.out.size hG8.size))
              clear hO8 hG8
              go_wp2_with fail
              go_roundw
              case rel =>
                have ho := HO8.out
                rw [← HSS.out] at ho
                exact ⟨_, _, _, _, q, f - 1, LL, rfl, HDr.out, (by rw [HSS.out]; exact HV8.out), by simpa using ho, HE.out, HQ.out.2.1, by have := HQ.out.1; have := HLl.out; omega, HL8.out⟩
              case measure => simp [intOf]; omega
    · have HN := (show (L ++ [[a, b, c, d, (k : Int)]]) = T by rw [← HT.out, run4_end (by omega)])
      have HOz := hid (show OwnRows w.heap.size W0.heap.size W0 (.slice o1 (L.length + 1) o2) T by rw [← HN]; have := HO.out; simpa using this)
      clear HN
      go_wp2_with fail
      go_ret2
      exact ⟨_, rfl, HOz.out, HL.out⟩
end Go.Proofs.Ytofmmegpadojlaa
