/- Lists of squares with a sum: what the model answers. -/
import Derived.Test.YtofmmegpadojlaaSqO
namespace Go.Proofs.Ytofmmegpadojlaa
open Go.RowKit

def firstAns (k : Nat) (most n : Int) : Option (List Int) := if 0 ≤ n ∧ n ≤ most then (Sq.sqL k n.toNat n.toNat).head? else none
def allAns (k : Nat) (most n : Int) : Option (List (List Int)) := if 0 ≤ n ∧ n ≤ most then some (Sq.sqL k n.toNat n.toNat) else none
def signI (zs : List Int) : Int := (signs zs : Nat)
def countAns (k : Nat) (most n : Int) : Option Int := if 0 ≤ n ∧ n ≤ most then some (Sq.sumI ((Sq.sqL k n.toNat n.toNat).map signI)) else none
theorem sq2_len {n : Nat} (h : n ≤ 1000000) (m : Nat) : (Sq.sqL 2 n m).length ≤ 1000000 := by
  show (Sq.sqL (1 + 1) n m).length ≤ 1000000
  have := Sq.sqL_len n 1000 (fun m hm => rootN_le (Nat.le_trans hm h)) 1 n m (Nat.le_refl _)
  omega
theorem sq4_len {n : Nat} (h : n ≤ 2000) (m : Nat) : (Sq.sqL 4 n m).length ≤ 1000000 := by
  show (Sq.sqL (3 + 1) n m).length ≤ 1000000
  have := Sq.sqL_len n 44 (fun m hm => by
    have h1 := (rootN_spec m).1
    refine Nat.not_lt.1 fun h2 => ?_
    have := Nat.mul_le_mul (show 45 ≤ rootN m from h2) (show 45 ≤ rootN m from h2)
    omega) 3 n m (Nat.le_refl _)
  omega
theorem sqL_bd {k n m : Nat} {zs : List Int} (hk : k ≤ 4) (hm : m ≤ 1000000) (h : zs ∈ Sq.sqL k n m) : zs.length ≤ 4 ∧ ∀ z ∈ zs, 0 ≤ z ∧ z ≤ 1000000 := by
  obtain ⟨h1, h2⟩ := Sq.sqL_mem k n m zs h
  exact ⟨by omega, fun z hz => ⟨(h2 z hz).1, by have := (h2 z hz).2; omega⟩⟩
theorem signs_le {zs : List Int} (h : zs.length ≤ 4) : signs zs ≤ 10000 := by
  have h1 := (sg_bd zs zs.length h).1
  have h2 := Nat.pow_le_pow_right (show 0 < 10 by omega) h
  unfold signs; omega
theorem sumI_bd (L : List (List Int)) (h : ∀ r ∈ L, r.length ≤ 4) : 0 ≤ Sq.sumI (L.map signI) ∧ Sq.sumI (L.map signI) ≤ L.length * 10000 := by
  induction L with
  | nil => simp [Sq.sumI]
  | cons r L ih =>
    have h1 := ih (fun r hr => h r (by simp [hr]))
    have h2 := signs_le (h r (by simp))
    simp only [List.map_cons, Sq.sumI, List.length_cons, signI]
    omega
theorem signs_take {L : List (List Int)} {j : Nat} (h : j < L.length) : Sq.sumI ((L.take (j + 1)).map signI) = Sq.sumI ((L.take j).map signI) + signI L[j] := by
  rw [take_snoc L j h, List.map_append, Sq.sumI_append]; simp [Sq.sumI]
set_option maxRecDepth 20000 in
set_option maxHeartbeats 2000000 in
theorem sqFirst_any (n k : Nat) (w : World) (hk : k ≤ 4) (hn : n ≤ 1000000) :
    Calls Try.prog 83 #[.int .i64 n, .int .i64 k] w fun e w' => IntsAns w ((Sq.sqL k n n).head?) e w' := by
  have HC := hid (fun w => sqAll_any k n n 1 w hk hn hn (by omega) (by omega))
  obtain ⟨T, hT⟩ : ∃ T, Sq.sqL k n n = T := ⟨_, rfl⟩
  rw [hT] at HC ⊢
  clear hT
  cases T with
  | nil =>
    go_enter Try.func83, Try.ntmps83
    go_wp2_with (go_at_call 82; refine (HC.out _).mono ?_; rintro e w2 ⟨v, rfl, hO, hL⟩; obtain ⟨p, c, rfl⟩ := hO.len_le; have HL := hid hL; clear hO hL)
    go_ret2
    exact ⟨_, rfl, ⟨World.ownsRow_nil _ _ _ _, fun b hb => by simp [Value.ownBlock] at hb⟩, HL.out⟩
  | cons r T =>
    rw [show (r :: T).take 1 = [r] by simp] at HC
    go_enter Try.func83, Try.ntmps83
    go_wp2_with fail
    refine (HC.out _).mono ?_
    rintro e w2 ⟨v, rfl, hO, hL⟩
    obtain ⟨us, hul, hus, _, hin, _⟩ := hO.partsH
    obtain ⟨p, c, e1, _, _, _, hcell⟩ := ownsRow_shape hus
    obtain ⟨g, e2, hc0⟩ := hcell 0 (by rw [hul]; simp)
    have HU := hid (hin 0 (by simp))
    have hul1 : us.length = 1 := by simpa using hul
    have hc := hc0
    rw [show us[0]? = some (us.getD 0 undef) by simp [hul1]] at hc
    obtain ⟨u, hu⟩ : ∃ u, us.getD 0 undef = u := ⟨_, rfl⟩
    rw [hu] at hc HU
    rw [hul1] at e1
    subst e1 e2
    have HL := hid hL
    clear hul hus hin hcell hc0 hu hul1 hO hL
    go_wp2_with fail
    go_ret2
    exact ⟨u, rfl, by simpa using HU.out, HL.out⟩
set_option maxHeartbeats 1000000 in
theorem specTwoSquares_any (n : Int) (w : World) : Calls Try.prog 31 #[.int .i64 n] w fun e w' => IntsAns w (firstAns 2 1000000 n) e w' := by
  by_cases h : 0 ≤ n ∧ n ≤ 1000000
  · obtain ⟨m, rfl⟩ : ∃ m : Nat, n = (m : Int) := ⟨n.toNat, by omega⟩
    have HA := hid (show firstAns 2 1000000 (m : Int) = (Sq.sqL 2 m m).head? by unfold firstAns; rw [if_pos h, Int.toNat_natCast])
    have HB := hid (inB_true h)
    have HF := hid (fun w => sqFirst_any m 2 w (by omega) (by omega))
    rw [HA.out]
    clear h HA
    go_enter Try.func31, Try.ntmps31
    go_wp2_with (first | (go_at_call 68; refine (sqNumber_as _ _ _ HB.out).mono ?_; rintro e w2 ⟨rfl, rfl⟩) | (go_at_call 83; refine (HF.out _).mono ?_; rintro e w2 ⟨v, rfl, hO, hL⟩; have HO := hid hO; have HL := hid hL; clear hO hL))
    go_ret2
    exact ⟨v, rfl, HO.out, HL.out⟩
  · have HA := hid (show firstAns 2 1000000 n = none from if_neg h)
    have HB := hid (inB_false h)
    clear h
    go_enter Try.func31, Try.ntmps31
    go_wp2_with (go_at_call 68; refine (sqNumber_as _ _ _ HB.out).mono ?_; rintro e w2 ⟨rfl, rfl⟩)
    go_ret2
    exact ⟨_, by rw [HA.out]; rfl, by rw [HA.out]; exact ⟨World.ownsRow_nil _ _ _ _, fun b hb => by simp [Value.ownBlock] at hb⟩, Later.refl _⟩
set_option maxHeartbeats 1000000 in
theorem specThreeSquares_any (n : Int) (w : World) : Calls Try.prog 53 #[.int .i64 n] w fun e w' => IntsAns w (firstAns 3 1000000 n) e w' := by
  by_cases h : 0 ≤ n ∧ n ≤ 1000000
  · obtain ⟨m, rfl⟩ : ∃ m : Nat, n = (m : Int) := ⟨n.toNat, by omega⟩
    have HA := hid (show firstAns 3 1000000 (m : Int) = (Sq.sqL 3 m m).head? by unfold firstAns; rw [if_pos h, Int.toNat_natCast])
    have HB := hid (inB_true h)
    have HF := hid (fun w => sqFirst_any m 3 w (by omega) (by omega))
    rw [HA.out]
    clear h HA
    go_enter Try.func53, Try.ntmps53
    go_wp2_with (first | (go_at_call 68; refine (sqNumber_as _ _ _ HB.out).mono ?_; rintro e w2 ⟨rfl, rfl⟩) | (go_at_call 83; refine (HF.out _).mono ?_; rintro e w2 ⟨v, rfl, hO, hL⟩; have HO := hid hO; have HL := hid hL; clear hO hL))
    go_ret2
    exact ⟨v, rfl, HO.out, HL.out⟩
  · have HA := hid (show firstAns 3 1000000 n = none from if_neg h)
    have HB := hid (inB_false h)
    clear h
    go_enter Try.func53, Try.ntmps53
    go_wp2_with (go_at_call 68; refine (sqNumber_as _ _ _ HB.out).mono ?_; rintro e w2 ⟨rfl, rfl⟩)
    go_ret2
    exact ⟨_, by rw [HA.out]; rfl, by rw [HA.out]; exact ⟨World.ownsRow_nil _ _ _ _, fun b hb => by simp [Value.ownBlock] at hb⟩, Later.refl _⟩
set_option maxHeartbeats 1000000 in
theorem specFourSquares_any (n : Int) (w : World) : Calls Try.prog 46 #[.int .i64 n] w fun e w' => IntsAns w (firstAns 4 2000 n) e w' := by
  by_cases h : 0 ≤ n ∧ n ≤ 2000
  · obtain ⟨m, rfl⟩ : ∃ m : Nat, n = (m : Int) := ⟨n.toNat, by omega⟩
    have HA := hid (show firstAns 4 2000 (m : Int) = (Sq.sqL 4 m m).head? by unfold firstAns; rw [if_pos h, Int.toNat_natCast])
    have HB := hid (inB_true h)
    have HF := hid (fun w => sqFirst_any m 4 w (by omega) (by omega))
    rw [HA.out]
    clear h HA
    go_enter Try.func46, Try.ntmps46
    go_wp2_with (first | (go_at_call 85; refine (l1In_b _ _ _ _ _ HB.out).mono ?_; rintro e w2 ⟨rfl, rfl⟩) | (go_at_call 83; refine (HF.out _).mono ?_; rintro e w2 ⟨v, rfl, hO, hL⟩; have HO := hid hO; have HL := hid hL; clear hO hL))
    go_ret2
    exact ⟨v, rfl, HO.out, HL.out⟩
  · have HA := hid (show firstAns 4 2000 n = none from if_neg h)
    have HB := hid (inB_false h)
    clear h
    go_enter Try.func46, Try.ntmps46
    go_wp2_with (go_at_call 85; refine (l1In_b _ _ _ _ _ HB.out).mono ?_; rintro e w2 ⟨rfl, rfl⟩)
    go_ret2
    exact ⟨_, by rw [HA.out]; rfl, by rw [HA.out]; exact ⟨World.ownsRow_nil _ _ _ _, fun b hb => by simp [Value.ownBlock] at hb⟩, Later.refl _⟩
set_option maxHeartbeats 1000000 in
theorem specAllTwoSquares_any (n : Int) (w : World) : Calls Try.prog 30 #[.int .i64 n] w fun e w' => RowsAns w (allAns 2 1000000 n) e w' := by
  by_cases h : 0 ≤ n ∧ n ≤ 1000000
  · obtain ⟨m, rfl⟩ : ∃ m : Nat, n = (m : Int) := ⟨n.toNat, by omega⟩
    have HA := hid (show allAns 2 1000000 (m : Int) = some (Sq.sqL 2 m m) by unfold allAns; rw [if_pos h, Int.toNat_natCast])
    have HB := hid (inB_true h)
    have HF := hid (fun w => sqAll_any 2 m m 1000000 w (by omega) (by omega) (by omega) (by omega) (by omega))
    rw [List.take_of_length_le (sq2_len (by omega) m)] at HF
    obtain ⟨T, hT⟩ : ∃ T, Sq.sqL 2 m m = T := ⟨_, rfl⟩
    rw [hT] at HF HA
    rw [HA.out]
    clear h HA hT
    go_enter Try.func30, Try.ntmps30
    go_wp2_with (first | (go_at_call 68; refine (sqNumber_as _ _ _ HB.out).mono ?_; rintro e w2 ⟨rfl, rfl⟩) | (go_at_call 82; refine (HF.out _).mono ?_; rintro e w2 ⟨v, rfl, hO, hL⟩; have HO := hid hO; have HL := hid hL; clear hO hL))
    go_ret2
    exact ⟨v, rfl, HO.out, HL.out⟩
  · have HA := hid (show allAns 2 1000000 n = none from if_neg h)
    have HB := hid (inB_false h)
    clear h
    go_enter Try.func30, Try.ntmps30
    go_wp2_with (go_at_call 68; refine (sqNumber_as _ _ _ HB.out).mono ?_; rintro e w2 ⟨rfl, rfl⟩)
    go_ret2
    exact ⟨_, by rw [HA.out]; rfl, by rw [HA.out]; exact OwnRows.noneH _ _ _, Later.refl _⟩
set_option maxHeartbeats 1000000 in
theorem specAllFourSquares_any (n : Int) (w : World) : Calls Try.prog 44 #[.int .i64 n] w fun e w' => RowsAns w (allAns 4 2000 n) e w' := by
  by_cases h : 0 ≤ n ∧ n ≤ 2000
  · obtain ⟨m, rfl⟩ : ∃ m : Nat, n = (m : Int) := ⟨n.toNat, by omega⟩
    have HA := hid (show allAns 4 2000 (m : Int) = some (Sq.sqL 4 m m) by unfold allAns; rw [if_pos h, Int.toNat_natCast])
    have HB := hid (inB_true h)
    have HF := hid (fun w => sqAll_any 4 m m 1000000 w (by omega) (by omega) (by omega) (by omega) (by omega))
    rw [List.take_of_length_le (sq4_len (by omega) m)] at HF
    obtain ⟨T, hT⟩ : ∃ T, Sq.sqL 4 m m = T := ⟨_, rfl⟩
    rw [hT] at HF HA
    rw [HA.out]
    clear h HA hT
    go_enter Try.func44, Try.ntmps44
    go_wp2_with (first | (go_at_call 85; refine (l1In_b _ _ _ _ _ HB.out).mono ?_; rintro e w2 ⟨rfl, rfl⟩) | (go_at_call 82; refine (HF.out _).mono ?_; rintro e w2 ⟨v, rfl, hO, hL⟩; have HO := hid hO; have HL := hid hL; clear hO hL))
    go_ret2
    exact ⟨v, rfl, HO.out, HL.out⟩
  · have HA := hid (show allAns 4 2000 n = none from if_neg h)
    have HB := hid (inB_false h)
    clear h
    go_enter Try.func44, Try.ntmps44
    go_wp2_with (go_at_call 85; refine (l1In_b _ _ _ _ _ HB.out).mono ?_; rintro e w2 ⟨rfl, rfl⟩)
    go_ret2
    exact ⟨_, by rw [HA.out]; rfl, by rw [HA.out]; exact OwnRows.noneH _ _ _, Later.refl _⟩
set_option maxRecDepth 20000 in
set_option maxHeartbeats 2000000 in
theorem specCountTwo_any (n : Int) (w : World) : Calls Try.prog 35 #[.int .i64 n] w fun e w' => NumAns w (countAns 2 1000000 n) e w' := by
  by_cases h : 0 ≤ n ∧ n ≤ 1000000
  · obtain ⟨m, rfl⟩ : ∃ m : Nat, n = (m : Int) := ⟨n.toNat, by omega⟩
    have HA := hid (show countAns 2 1000000 (m : Int) = some (Sq.sumI ((Sq.sqL 2 m m).map signI)) by unfold countAns; rw [if_pos h, Int.toNat_natCast])
    have HB := hid (inB_true h)
    have HF := hid (fun w => sqAll_any 2 m m 1000000 w (by omega) (by omega) (by omega) (by omega) (by omega))
    have hTl := sq2_len (n := m) (by omega) m
    rw [List.take_of_length_le hTl] at HF
    have HM := hid (fun (zs : List Int) (hz : zs ∈ Sq.sqL 2 m m) => sqL_bd (by omega) (by omega) hz)
    obtain ⟨T, hT⟩ : ∃ T, Sq.sqL 2 m m = T := ⟨_, rfl⟩
    rw [hT] at HF HA HM hTl
    clear h hT
    go_enter Try.func35, Try.ntmps35
    go_wp2_with (first | (go_at_call 68; refine (sqNumber_as _ _ _ HB.out).mono ?_; rintro e w2 ⟨rfl, rfl⟩) | (go_at_call 82; refine (HF.out _).mono ?_; rintro e w2 ⟨v, rfl, hO, hL⟩; obtain ⟨p, c, rfl⟩ := hO.len_le))
    have HR := hid hO.rows
    have HL := hid hL
    clear hO hL
    go_loopw [4, 14] (fun s x wr => ∃ j : Nat, j ≤ T.length ∧ x = .int .i64 j ∧ s = .int .i64 (Sq.sumI ((T.take j).map signI)) ∧ Later w2 wr) (fun _ x _ => T.length - (intOf x).toNat)
    case atStart => exact ⟨0, Nat.zero_le _, rfl, rfl, Later.refl _⟩
    case round =>
      obtain ⟨j, hj, rfl, rfl, hLj⟩ := hrel
      have hsb := sumI_bd (T.take j) (fun r hr => (HM.out r (List.mem_of_mem_take hr)).1)
      rw [List.length_take] at hsb
      have hsb2 : Sq.sumI ((T.take j).map signI) ≤ 10000000000 := by omega
      obtain ⟨S, hS⟩ : ∃ S, Sq.sumI ((T.take j).map signI) = S := ⟨_, rfl⟩
      rw [hS] at hsb hsb2 ⊢
      have hs0 := hsb.1
      clear hsb
      have HLj := hid hLj
      by_cases hlt : j < T.length
      · obtain ⟨a', cap', e1, _, hc⟩ := HR.out
        obtain ⟨ad, u, e2, hcell, hU⟩ := hc j hlt
        simp only [Value.slice.injEq] at e1
        obtain ⟨rfl, e12, rfl⟩ := e1
        clear e12
        subst e2
        have hcellr := hLj.cell hcell
        have HU := hid (hU.later hLj)
        obtain ⟨r, hr⟩ : ∃ r, T[j] = r := ⟨_, rfl⟩
        rw [show T.getD j [] = r by rw [← hr]; simp [hlt]] at HU
        have HMr := hid (HM.out r (by rw [← hr]; exact List.getElem_mem hlt))
        have HST := hid (show Sq.sumI ((T.take (j + 1)).map signI) = S + signI r by rw [signs_take hlt, hS, hr])
        have HSG := hid (sqSigns_any u r wr HMr.out.1 HMr.out.2 HU.out)
        have hsr := signs_le HMr.out.1
        have HG := hid (show signI r = (signs r : Nat) from rfl)
        obtain ⟨q, hq⟩ : ∃ q, signs r = q := ⟨_, rfl⟩
        rw [hq] at HSG hsr HG
        clear hc hcell hU hLj hr hS hq
        go_wp2_with (go_at_call 88; refine HSG.out.mono ?_; rintro e w3 ⟨rfl, hL3⟩; have HL3 := hid hL3; clear hL3)
        go_roundw
        case rel => exact ⟨j + 1, hlt, by go_num, by rw [HST.out, HG.out], HLj.out.trans HL3.out⟩
        case measure => simp [intOf]; omega
      · have HE := hid (show Sq.sumI (T.map signI) = S by rw [← hS, List.take_of_length_le (by omega)])
        clear hS hLj
        go_wp2_with fail
        go_ret2
        exact ⟨by rw [HA.out, HE.out]; rfl, HL.out.trans HLj.out⟩
  · have HA := hid (show countAns 2 1000000 n = none from if_neg h)
    have HB := hid (inB_false h)
    clear h
    go_enter Try.func35, Try.ntmps35
    go_wp2_with (go_at_call 68; refine (sqNumber_as _ _ _ HB.out).mono ?_; rintro e w2 ⟨rfl, rfl⟩)
    go_ret2
    exact ⟨by rw [HA.out]; rfl, Later.refl _⟩
set_option maxRecDepth 20000 in
set_option maxHeartbeats 2000000 in
theorem specCountFour_any (n : Int) (w : World) : Calls Try.prog 48 #[.int .i64 n] w fun e w' => NumAns w (countAns 4 2000 n) e w' := by
  by_cases h : 0 ≤ n ∧ n ≤ 2000
  · obtain ⟨m, rfl⟩ : ∃ m : Nat, n = (m : Int) := ⟨n.toNat, by omega⟩
    have HA := hid (show countAns 4 2000 (m : Int) = some (Sq.sumI ((Sq.sqL 4 m m).map signI)) by unfold countAns; rw [if_pos h, Int.toNat_natCast])
    have HB := hid (inB_true h)
    have HF := hid (fun w => sqAll_any 4 m m 1000000 w (by omega) (by omega) (by omega) (by omega) (by omega))
    have hTl := sq4_len (n := m) (by omega) m
    rw [List.take_of_length_le hTl] at HF
    have HM := hid (fun (zs : List Int) (hz : zs ∈ Sq.sqL 4 m m) => sqL_bd (by omega) (by omega) hz)
    obtain ⟨T, hT⟩ : ∃ T, Sq.sqL 4 m m = T := ⟨_, rfl⟩
    rw [hT] at HF HA HM hTl
    clear h hT
    go_enter Try.func48, Try.ntmps48
    go_wp2_with (first | (go_at_call 85; refine (l1In_b _ _ _ _ _ HB.out).mono ?_; rintro e w2 ⟨rfl, rfl⟩) | (go_at_call 82; refine (HF.out _).mono ?_; rintro e w2 ⟨v, rfl, hO, hL⟩; obtain ⟨p, c, rfl⟩ := hO.len_le))
    have HR := hid hO.rows
    have HL := hid hL
    clear hO hL
    go_loopw [4, 14] (fun s x wr => ∃ j : Nat, j ≤ T.length ∧ x = .int .i64 j ∧ s = .int .i64 (Sq.sumI ((T.take j).map signI)) ∧ Later w2 wr) (fun _ x _ => T.length - (intOf x).toNat)
    case atStart => exact ⟨0, Nat.zero_le _, rfl, rfl, Later.refl _⟩
    case round =>
      obtain ⟨j, hj, rfl, rfl, hLj⟩ := hrel
      have hsb := sumI_bd (T.take j) (fun r hr => (HM.out r (List.mem_of_mem_take hr)).1)
      rw [List.length_take] at hsb
      have hsb2 : Sq.sumI ((T.take j).map signI) ≤ 10000000000 := by omega
      obtain ⟨S, hS⟩ : ∃ S, Sq.sumI ((T.take j).map signI) = S := ⟨_, rfl⟩
      rw [hS] at hsb hsb2 ⊢
      have hs0 := hsb.1
      clear hsb
      have HLj := hid hLj
      by_cases hlt : j < T.length
      · obtain ⟨a', cap', e1, _, hc⟩ := HR.out
        obtain ⟨ad, u, e2, hcell, hU⟩ := hc j hlt
        simp only [Value.slice.injEq] at e1
        obtain ⟨rfl, e12, rfl⟩ := e1
        clear e12
        subst e2
        have hcellr := hLj.cell hcell
        have HU := hid (hU.later hLj)
        obtain ⟨r, hr⟩ : ∃ r, T[j] = r := ⟨_, rfl⟩
        rw [show T.getD j [] = r by rw [← hr]; simp [hlt]] at HU
        have HMr := hid (HM.out r (by rw [← hr]; exact List.getElem_mem hlt))
        have HST := hid (show Sq.sumI ((T.take (j + 1)).map signI) = S + signI r by rw [signs_take hlt, hS, hr])
        have HSG := hid (sqSigns_any u r wr HMr.out.1 HMr.out.2 HU.out)
        have hsr := signs_le HMr.out.1
        have HG := hid (show signI r = (signs r : Nat) from rfl)
        obtain ⟨q, hq⟩ : ∃ q, signs r = q := ⟨_, rfl⟩
        rw [hq] at HSG hsr HG
        clear hc hcell hU hLj hr hS hq
        go_wp2_with (go_at_call 88; refine HSG.out.mono ?_; rintro e w3 ⟨rfl, hL3⟩; have HL3 := hid hL3; clear hL3)
        go_roundw
        case rel => exact ⟨j + 1, hlt, by go_num, by rw [HST.out, HG.out], HLj.out.trans HL3.out⟩
        case measure => simp [intOf]; omega
      · have HE := hid (show Sq.sumI (T.map signI) = S by rw [← hS, List.take_of_length_le (by omega)])
        clear hS hLj
        go_wp2_with fail
        go_ret2
        exact ⟨by rw [HA.out, HE.out]; rfl, HL.out.trans HLj.out⟩
  · have HA := hid (show countAns 4 2000 n = none from if_neg h)
    have HB := hid (inB_false h)
    clear h
    go_enter Try.func48, Try.ntmps48
    go_wp2_with (go_at_call 85; refine (l1In_b _ _ _ _ _ HB.out).mono ?_; rintro e w2 ⟨rfl, rfl⟩)
    go_ret2
    exact ⟨by rw [HA.out]; rfl, Later.refl _⟩
end Go.Proofs.Ytofmmegpadojlaa
