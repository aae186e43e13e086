/- Sums over divisors: DivisorBalance, DivisorSumFour in both. -/
import Derived.Test.YtcgdegmhajfbaaaSqK
namespace Go.Proofs.Ytcgdegmhajfbaaa
open Go.RowKit

/-- What a sum adds up to, told from the numbers 1 to k. -/
def divS (N : Nat) (G : Nat → Int) : Nat → Int
  | 0 => 0
  | k + 1 => divS N G k + (if N % (k + 1) = 0 then G (k + 1) else 0)
theorem divS_bd {N : Nat} {G : Nat → Int} {B : Int} (hB : ∀ d, 1 ≤ d → d ≤ N → -B ≤ G d ∧ G d ≤ B) (h0 : 0 ≤ B) : ∀ k, k ≤ N → -(k * B) ≤ divS N G k ∧ divS N G k ≤ k * B := by
  intro k
  induction k with
  | zero => intro _; simp [divS]
  | succ k ih =>
    intro hk
    have h1 := ih (by omega)
    have h2 := hB (k + 1) (by omega) hk
    have h3 : ((k + 1 : Nat) : Int) * B = (k : Int) * B + B := by rw [Int.natCast_add, Int.add_mul]; simp
    unfold divS
    split <;> omega
theorem divS_sum (N : Nat) (G : Nat → Int) : ∀ k, divS N G k = Sq.sumI ((((List.range k).map (· + 1)).filter fun d => N % d == 0).map G) := by
  intro k
  induction k with
  | zero => rfl
  | succ k ih =>
    unfold divS
    rw [List.range_succ, List.map_append, List.filter_append, List.map_append, Sq.sumI_append, ih]
    congr 1
    by_cases h : N % (k + 1) = 0 <;> simp [h, Sq.sumI]
theorem divL_sum (N : Nat) (hN : 1 ≤ N) (G : Nat → Int) : Sq.sumI ((Sq.divL N (rootN N)).map G) = divS N G N := by
  rw [divS_sum]
  exact Sq.sumI_perm ((Sq.divL_perm N hN (rootN N) (rootN_spec N).1 (rootN_spec N).2).map G)
theorem wsum_sumI (G : Nat → Int) (B : Int) (hB0 : 0 ≤ B) (hB : B ≤ 1000000) (L : List Nat) (hL : L.length ≤ 1000000) (hG : ∀ d ∈ L, -B ≤ G d ∧ G d ≤ B) (f : Nat → Int) (hf : ∀ i (h : i < L.length), f i = G L[i]) :
    wsum f L.length = Sq.sumI (L.map G) := by
  have key : ∀ k, k ≤ L.length → wsum f k = Sq.sumI ((L.take k).map G) ∧ -(k * B) ≤ wsum f k ∧ wsum f k ≤ k * B := by
    intro k
    induction k with
    | zero => intro _; simp [wsum, Sq.sumI]
    | succ k ih =>
      intro hk
      obtain ⟨h1, h2, h3⟩ := ih (by omega)
      have h4 := hG L[k] (List.getElem_mem _)
      have h5 : ((k + 1 : Nat) : Int) * B = (k : Int) * B + B := by rw [Int.natCast_add, Int.add_mul]; simp
      have h6 : (k : Int) * B ≤ 1000000 * 1000000 := Int.mul_le_mul (by omega) hB hB0 (by omega)
      have h7 : wsum f (k + 1) = wsum f k + f k := by
        rw [wsum_succ, hf k hk]; exact IntWalk.wrap64_in _ (by omega)
      rw [h7, hf k hk, take_snoc L k hk, List.map_append, Sq.sumI_append, ← h1]
      refine ⟨by simp [Sq.sumI], by omega, by omega⟩
  have := (key L.length (Nat.le_refl _)).1
  rwa [List.take_of_length_le (Nat.le_refl _)] at this
theorem divL_in {N d k : Nat} (hN : 1 ≤ N) (h : d ∈ Sq.divL N k) : 1 ≤ d ∧ d ≤ N := by
  rw [Sq.divL_mem] at h
  obtain ⟨e, h1, _, h3, h4⟩ := h
  have h5 : e ≤ N := Nat.le_of_dvd (by omega) (Nat.dvd_of_mod_eq_zero h3)
  rcases h4 with rfl | ⟨_, rfl⟩
  · exact ⟨h1, h5⟩
  · exact ⟨Nat.div_pos h5 h1, Nat.div_le_self _ _⟩
def balG (d : Nat) : Int := if d % 4 = 1 then 1 else if d % 4 = 3 then -1 else 0
def four4G (d : Nat) : Int := if d % 4 = 0 then 0 else d
def balAns (n : Int) : Option Int := if 1 ≤ n ∧ n ≤ 1000000 then some (4 * divS n.toNat balG n.toNat) else none
def sum4Ans (n : Int) : Option Int := if 1 ≤ n ∧ n ≤ 2000 then some (8 * divS n.toNat four4G n.toNat) else none
theorem balG_bd (d : Nat) : -1 ≤ balG d ∧ balG d ≤ 1 := by unfold balG; split <;> (try split) <;> omega
theorem four4G_bd (d : Nat) (h : d ≤ 2000) : -2000 ≤ four4G d ∧ four4G d ≤ 2000 := by unfold four4G; split <;> omega
set_option maxHeartbeats 1000000 in
theorem balClosure_any (i d : Nat) (w : World) (_hd : d ≤ 1000000) : Calls Try.prog 40 #[.int .i64 i, .int .i64 d] w fun e w' => e = .returned (.int .i64 (balG d)) ∧ w = w' := by
  obtain ⟨t, ht⟩ : ∃ t : Nat, d % 4 = t := ⟨_, rfl⟩
  have q1 : (d : Int).tmod 4 = (t : Int) := by rw [← ht]; exact tmodN d 4
  have q2 : (d : Int) % 4 = (t : Int) := by omega
  have HG := hid (show balG d = if t = 1 then 1 else if t = 3 then -1 else 0 by unfold balG; rw [ht])
  clear ht
  by_cases h1 : t = 1
  · have hb : ((t : Int) == 1) = true := by simp [h1]
    have HA := hid (show balG d = 1 by rw [HG.out, if_pos h1])
    go_enter Try.func40, Try.ntmps40
    go_wp2_with fail
    go_ret
    exact ⟨by rw [HA.out]; rfl, rfl⟩
  · have hb : ((t : Int) == 1) = false := by simp; omega
    by_cases h3 : t = 3
    · have hb3 : ((t : Int) == 3) = true := by simp [h3]
      have HA := hid (show balG d = -1 by rw [HG.out, if_neg h1, if_pos h3])
      go_enter Try.func40, Try.ntmps40
      go_wp2_with fail
      go_ret
      exact ⟨by rw [HA.out]; rfl, rfl⟩
    · have hb3 : ((t : Int) == 3) = false := by simp; omega
      have HA := hid (show balG d = 0 by rw [HG.out, if_neg h1, if_neg h3])
      go_enter Try.func40, Try.ntmps40
      go_wp2_with fail
      go_ret
      exact ⟨by rw [HA.out]; rfl, rfl⟩
set_option maxHeartbeats 1000000 in
theorem four4Closure_any (i d : Nat) (w : World) (_hd : d ≤ 1000000) : Calls Try.prog 41 #[.int .i64 i, .int .i64 d] w fun e w' => e = .returned (.int .i64 (four4G d)) ∧ w = w' := by
  obtain ⟨t, ht⟩ : ∃ t : Nat, d % 4 = t := ⟨_, rfl⟩
  have q1 : (d : Int).tmod 4 = (t : Int) := by rw [← ht]; exact tmodN d 4
  have q2 : (d : Int) % 4 = (t : Int) := by omega
  have HG := hid (show four4G d = if t = 0 then 0 else (d : Int) by unfold four4G; rw [ht])
  clear ht
  by_cases h1 : t = 0
  · have hb : ((t : Int) == 0) = true := by simp [h1]
    have HA := hid (show four4G d = 0 by rw [HG.out, if_pos h1])
    go_enter Try.func41, Try.ntmps41
    go_wp2_with fail
    go_ret
    exact ⟨by rw [HA.out]; rfl, rfl⟩
  · have hb : ((t : Int) == 0) = false := by simp; omega
    have HA := hid (show four4G d = d by rw [HG.out, if_neg h1])
    go_enter Try.func41, Try.ntmps41
    go_wp2_with fail
    go_ret
    exact ⟨by rw [HA.out]; rfl, rfl⟩
theorem ofNats_at (L : List Nat) (i : Nat) (h : i < L.length) : (ofNats L).getD i 0 = ((L[i] : Nat) : Int) := by simp [ofNats, h]
theorem ofNats_len (L : List Nat) : (ofNats L).length = L.length := by simp [ofNats]
set_option maxHeartbeats 2000000 in
theorem specDivisorBalance_any (n : Int) (w : World) : Calls Try.prog 16 #[.int .i64 n] w fun e w' => NumAns w (balAns n) e w' := by
  by_cases h : 1 ≤ n ∧ n ≤ 1000000
  · obtain ⟨N, rfl⟩ : ∃ N : Nat, n = (N : Int) := ⟨n.toNat, by omega⟩
    have hN1 : 1 ≤ N := by omega
    have hN6 : N ≤ 1000000 := by omega
    have HB := hid (inB_true h)
    have HA := hid (show balAns (N : Int) = some (4 * divS N balG N) by unfold balAns; rw [if_pos h, Int.toNat_natCast])
    have HBD := hid (fun k hk => divS_bd (N := N) (G := balG) (B := 1) (fun d h1 h2 => balG_bd d) (by omega) k hk)
    clear h
    go_enter Try.func16, Try.ntmps16
    go_wp2_with (go_at_call 35; refine (l1In_b _ _ _ _ _ HB.out).mono ?_; rintro e w2 ⟨rfl, rfl⟩)
    go_loop [4, 5] (fun s i => ∃ k : Nat, k ≤ N ∧ i = .int .i64 ((k : Int) + 1) ∧ s = .int .i64 (divS N balG k)) (fun _ i => N + 2 - (intOf i).toNat)
    case atStart => exact ⟨0, Nat.zero_le _, rfl, rfl⟩
    case round =>
      obtain ⟨k, hk, rfl, rfl⟩ := hrel
      have hb := HBD.out k hk
      by_cases hlt : (k : Int) + 1 ≤ (N : Int)
      · obtain ⟨d, hd⟩ : ∃ d : Nat, d = k + 1 := ⟨_, rfl⟩
        have hb1 := HBD.out (k + 1) (by omega)
        have HST := hid (show divS N balG (k + 1) = divS N balG k + (if N % d = 0 then balG d else 0) by rw [hd]; rfl)
        obtain ⟨S, hS⟩ : ∃ S, divS N balG k = S := ⟨_, rfl⟩
        rw [hS] at hb HST ⊢
        have hSb : -1000000000000 ≤ S ∧ S ≤ 1000000000000 := by
          have : (k : Int) * 1 ≤ (N : Int) * 1 := Int.mul_le_mul_of_nonneg_right (by omega) (by omega)
          omega
        have hdI : (k : Int) + 1 = (d : Int) := by omega
        rw [hdI] at hlt ⊢
        have HD := hid hd
        have hz : ¬ (d : Int) = 0 := by omega
        have hd1 : 1 ≤ d := by omega
        clear hS hb hb1 hdI hd
        obtain ⟨t, ht⟩ : ∃ t : Nat, N % d = t := ⟨_, rfl⟩
        have q1 := tmodN N d
        rw [ht] at q1 HST
        clear ht
        obtain ⟨u, hu⟩ : ∃ u : Nat, d % 4 = u := ⟨_, rfl⟩
        have q4 : (d : Int).tmod 4 = (u : Int) := by rw [← hu]; exact tmodN d 4
        have q4' : (d : Int) % 4 = (u : Int) := by omega
        obtain ⟨x, hx⟩ : ∃ x : Nat, d % 2 = x := ⟨_, rfl⟩
        have q5 : (d : Int).tmod 2 = (x : Int) := by rw [← hx]; exact tmodN d 2
        have q5' : (d : Int) % 2 = (x : Int) := by omega
        have HGT := hid (show x = 1 → balG d = 2 - (u : Int) from fun h => by unfold balG; split <;> (try split) <;> omega)
        have HGF := hid (show ¬ x = 1 → balG d = 0 from fun h => by unfold balG; rw [if_neg (by omega), if_neg (by omega)])
        have hu4 : u < 4 := by omega
        clear hx
        clear hu
        by_cases h0 : t = 0
        · have hb0 : ((t : Int) == 0) = true := by simp [h0]
          by_cases h1 : x = 1
          · have hb1 : ((x : Int) == 1) = true := by simp [h1]
            have HE := hid (show divS N balG (k + 1) = S + (2 - (u : Int)) by rw [HST.out, if_pos h0, HGT.out h1])
            go_wp2_with fail
            go_round
            case rel => exact ⟨k + 1, by have := HD.out; omega, (by show Value.int .i64 ((d : Int) + 1) = Value.int .i64 (((k + 1 : Nat) : Int) + 1); rw [HD.out]), (by rw [HE.out])⟩
            case measure => have := HD.out; simp [intOf]; omega
          · have hb1 : ((x : Int) == 1) = false := by simp; omega
            have HE := hid (show divS N balG (k + 1) = S by rw [HST.out, if_pos h0, HGF.out h1, Int.add_zero])
            go_wp2_with fail
            go_round
            case rel => exact ⟨k + 1, by have := HD.out; omega, (by show Value.int .i64 ((d : Int) + 1) = Value.int .i64 (((k + 1 : Nat) : Int) + 1); rw [HD.out]), by rw [HE.out]⟩
            case measure => have := HD.out; simp [intOf]; omega
        · have hb0 : ((t : Int) == 0) = false := by simp [h0]
          have HE := hid (show divS N balG (k + 1) = S by rw [HST.out, if_neg h0, Int.add_zero])
          go_wp2_with fail
          go_round
          case rel => exact ⟨k + 1, by have := HD.out; omega, (by show Value.int .i64 ((d : Int) + 1) = Value.int .i64 (((k + 1 : Nat) : Int) + 1); rw [HD.out]), by rw [HE.out]⟩
          case measure => have := HD.out; simp [intOf]; omega
      · have hkN : k = N := by omega
        rw [hkN] at hb
        have HB2 := hid hb
        have HK := hid (show divS N balG N = divS N balG k by rw [hkN])
        obtain ⟨S, hS⟩ : ∃ S, divS N balG k = S := ⟨_, rfl⟩
        rw [hS] at HK ⊢
        rw [HK.out] at HB2
        have hSb : -1000000000000 ≤ S ∧ S ≤ 1000000000000 := by have := HB2.out; omega
        clear hS hb hkN
        go_wp2_with fail
        go_ret2
        exact ⟨by rw [HA.out, HK.out]; rfl, Later.refl _⟩
  · have HA := hid (show balAns n = none from if_neg h)
    have HB := hid (inB_false h)
    clear h
    go_enter Try.func16, Try.ntmps16
    go_wp2_with (go_at_call 35; refine (l1In_b _ _ _ _ _ HB.out).mono ?_; rintro e w2 ⟨rfl, rfl⟩)
    go_ret2
    exact ⟨by rw [HA.out]; rfl, Later.refl _⟩
set_option maxHeartbeats 2000000 in
theorem implDivisorBalance_any (n : Int) (w : World) : Calls Try.prog 17 #[.int .i64 n] w fun e w' => NumAns w (balAns n) e w' := by
  by_cases h : 1 ≤ n ∧ n ≤ 1000000
  · obtain ⟨N, rfl⟩ : ∃ N : Nat, n = (N : Int) := ⟨n.toNat, by omega⟩
    have hN1 : 1 ≤ N := by omega
    have hN6 : N ≤ 1000000 := by omega
    have HB := hid (inB_true h)
    have HA0 := hid (show balAns (N : Int) = some (4 * divS N balG N) by unfold balAns; rw [if_pos h, Int.toNat_natCast])
    have HD := hid (fun w => divisorsOf_any N w hN1 (by omega))
    have HS := hid (divL_sum N hN1 balG)
    have hll := divL_len N (rootN N)
    have hrr := rootN_le (n := N) (by omega)
    have HI := hid (fun d (hd : d ∈ Sq.divL N (rootN N)) => divL_in hN1 hd)
    have hbd := divS_bd (N := N) (G := balG) (B := 1) (fun d h1 h2 => balG_bd d) (by omega) N (Nat.le_refl _)
    obtain ⟨S, hS⟩ : ∃ S, divS N balG N = S := ⟨_, rfl⟩
    rw [hS] at HS HA0 hbd
    have hSb : -1000000000000 ≤ S ∧ S ≤ 1000000000000 := by omega
    have HA := hid (show balAns (N : Int) = some (4 * S) from HA0.out)
    obtain ⟨L, hL⟩ : ∃ L, Sq.divL N (rootN N) = L := ⟨_, rfl⟩
    rw [hL] at HD HS hll HI
    have HW := hid (wsum_sumI balG 1 (by omega) (by omega) L (by omega) (fun d hd => by have h9 := HI.out d hd; exact balG_bd d) (fun i => balG (L.getD i 0)) (fun i h => by simp [h]))
    have HLN := hid (ofNats_len L)
    clear h HA0 hbd hS hL hll hrr
    go_enter Try.func17, Try.ntmps17
    go_wp2_with (first
      | (go_at_call 37; refine (isSumOfSome_as _ _ _ _ HB.out).mono ?_; rintro e w2 ⟨rfl, rfl⟩)
      | (go_at_call 39; refine (HD.out _).mono ?_; rintro e w2 ⟨v, rfl, hO, hL2⟩; have HO := hid hO; have HL2 := hid hL2; clear hO hL2)
      | (go_at_call 38; refine (sumOver_any v (ofNats L) 40 #[] (fun i => balG (L.getD i 0)) _ Try.call40 HO.out.ints (fun i w1 hi hL1 => by rw [HLN.out] at hi; rw [ofNats_at L i hi]; refine (balClosure_any i L[i] w1 (by have := HI.out L[i] (List.getElem_mem hi); omega)).mono ?_; rintro e w2 ⟨rfl, rfl⟩; exact ⟨by simp [hi], Later.refl _⟩)).mono ?_; rintro e w3 ⟨rfl, hL3⟩; rw [HLN.out, HW.out, HS.out]; have HL3 := hid (HL2.out.trans hL3); clear hL3))
    go_ret2
    exact ⟨by rw [HA.out]; rfl, HL3.out⟩
  · have HA := hid (show balAns n = none from if_neg h)
    have HB := hid (inB_false h)
    clear h
    go_enter Try.func17, Try.ntmps17
    go_wp2_with (go_at_call 37; refine (isSumOfSome_as _ _ _ _ HB.out).mono ?_; rintro e w2 ⟨rfl, rfl⟩)
    go_ret2
    exact ⟨by rw [HA.out]; rfl, Later.refl _⟩
set_option maxHeartbeats 2000000 in
theorem specDivisorSumFour_any (n : Int) (w : World) : Calls Try.prog 20 #[.int .i64 n] w fun e w' => NumAns w (sum4Ans n) e w' := by
  by_cases h : 1 ≤ n ∧ n ≤ 2000
  · obtain ⟨N, rfl⟩ : ∃ N : Nat, n = (N : Int) := ⟨n.toNat, by omega⟩
    have hN1 : 1 ≤ N := by omega
    have hN6 : N ≤ 2000 := by omega
    have HB := hid (inB_true h)
    have HA := hid (show sum4Ans (N : Int) = some (8 * divS N four4G N) by unfold sum4Ans; rw [if_pos h, Int.toNat_natCast])
    have HBD := hid (fun k hk => divS_bd (N := N) (G := four4G) (B := 2000) (fun d h1 h2 => four4G_bd d (by omega)) (by omega) k hk)
    clear h
    go_enter Try.func20, Try.ntmps20
    go_wp2_with (go_at_call 35; refine (l1In_b _ _ _ _ _ HB.out).mono ?_; rintro e w2 ⟨rfl, rfl⟩)
    go_loop [4, 5] (fun s i => ∃ k : Nat, k ≤ N ∧ i = .int .i64 ((k : Int) + 1) ∧ s = .int .i64 (divS N four4G k)) (fun _ i => N + 2 - (intOf i).toNat)
    case atStart => exact ⟨0, Nat.zero_le _, rfl, rfl⟩
    case round =>
      obtain ⟨k, hk, rfl, rfl⟩ := hrel
      have hb := HBD.out k hk
      by_cases hlt : (k : Int) + 1 ≤ (N : Int)
      · obtain ⟨d, hd⟩ : ∃ d : Nat, d = k + 1 := ⟨_, rfl⟩
        have hb1 := HBD.out (k + 1) (by omega)
        have HST := hid (show divS N four4G (k + 1) = divS N four4G k + (if N % d = 0 then four4G d else 0) by rw [hd]; rfl)
        obtain ⟨S, hS⟩ : ∃ S, divS N four4G k = S := ⟨_, rfl⟩
        rw [hS] at hb HST ⊢
        have hSb : -1000000000000 ≤ S ∧ S ≤ 1000000000000 := by
          have : (k : Int) * 2000 ≤ (N : Int) * 2000 := Int.mul_le_mul_of_nonneg_right (by omega) (by omega)
          omega
        have hdI : (k : Int) + 1 = (d : Int) := by omega
        rw [hdI] at hlt ⊢
        have HD := hid hd
        have hz : ¬ (d : Int) = 0 := by omega
        have hd1 : 1 ≤ d := by omega
        clear hS hb hb1 hdI hd
        obtain ⟨t, ht⟩ : ∃ t : Nat, N % d = t := ⟨_, rfl⟩
        have q1 := tmodN N d
        rw [ht] at q1 HST
        clear ht
        obtain ⟨u, hu⟩ : ∃ u : Nat, d % 4 = u := ⟨_, rfl⟩
        have q4 : (d : Int).tmod 4 = (u : Int) := by rw [← hu]; exact tmodN d 4
        have q4' : (d : Int) % 4 = (u : Int) := by omega
        have HGT := hid (show (0 : Int) < (u : Int) → four4G d = (d : Int) from fun h => by unfold four4G; rw [if_neg (by omega)])
        have HGF := hid (show ¬ (0 : Int) < (u : Int) → four4G d = 0 from fun h => by unfold four4G; rw [if_pos (by omega)])
        clear hu
        by_cases h0 : t = 0
        · have hb0 : ((t : Int) == 0) = true := by simp [h0]
          by_cases h1 : (0 : Int) < (u : Int)
          · skip
            have HE := hid (show divS N four4G (k + 1) = S + (d : Int) by rw [HST.out, if_pos h0, HGT.out h1])
            go_wp2_with fail
            go_round
            case rel => exact ⟨k + 1, by have := HD.out; omega, (by show Value.int .i64 ((d : Int) + 1) = Value.int .i64 (((k + 1 : Nat) : Int) + 1); rw [HD.out]), (by rw [HE.out])⟩
            case measure => have := HD.out; simp [intOf]; omega
          · have hb1 : decide ((0 : Int) < (u : Int)) = false := decide_eq_false h1
            have HE := hid (show divS N four4G (k + 1) = S by rw [HST.out, if_pos h0, HGF.out h1, Int.add_zero])
            go_wp2_with fail
            go_round
            case rel => exact ⟨k + 1, by have := HD.out; omega, (by show Value.int .i64 ((d : Int) + 1) = Value.int .i64 (((k + 1 : Nat) : Int) + 1); rw [HD.out]), by rw [HE.out]⟩
            case measure => have := HD.out; simp [intOf]; omega
        · have hb0 : ((t : Int) == 0) = false := by simp [h0]
          have HE := hid (show divS N four4G (k + 1) = S by rw [HST.out, if_neg h0, Int.add_zero])
          go_wp2_with fail
          go_round
          case rel => exact ⟨k + 1, by have := HD.out; omega, (by show Value.int .i64 ((d : Int) + 1) = Value.int .i64 (((k + 1 : Nat) : Int) + 1); rw [HD.out]), by rw [HE.out]⟩
          case measure => have := HD.out; simp [intOf]; omega
      · have hkN : k = N := by omega
        rw [hkN] at hb
        have HB2 := hid hb
        have HK := hid (show divS N four4G N = divS N four4G k by rw [hkN])
        obtain ⟨S, hS⟩ : ∃ S, divS N four4G k = S := ⟨_, rfl⟩
        rw [hS] at HK ⊢
        rw [HK.out] at HB2
        have hSb : -1000000000000 ≤ S ∧ S ≤ 1000000000000 := by have := HB2.out; omega
        clear hS hb hkN
        go_wp2_with fail
        go_ret2
        exact ⟨by rw [HA.out, HK.out]; rfl, Later.refl _⟩
  · have HA := hid (show sum4Ans n = none from if_neg h)
    have HB := hid (inB_false h)
    clear h
    go_enter Try.func20, Try.ntmps20
    go_wp2_with (go_at_call 35; refine (l1In_b _ _ _ _ _ HB.out).mono ?_; rintro e w2 ⟨rfl, rfl⟩)
    go_ret2
    exact ⟨by rw [HA.out]; rfl, Later.refl _⟩
set_option maxHeartbeats 2000000 in
theorem implDivisorSumFour_any (n : Int) (w : World) : Calls Try.prog 21 #[.int .i64 n] w fun e w' => NumAns w (sum4Ans n) e w' := by
  by_cases h : 1 ≤ n ∧ n ≤ 2000
  · obtain ⟨N, rfl⟩ : ∃ N : Nat, n = (N : Int) := ⟨n.toNat, by omega⟩
    have hN1 : 1 ≤ N := by omega
    have hN6 : N ≤ 2000 := by omega
    have HB := hid (inB_true h)
    have HA0 := hid (show sum4Ans (N : Int) = some (8 * divS N four4G N) by unfold sum4Ans; rw [if_pos h, Int.toNat_natCast])
    have HD := hid (fun w => divisorsOf_any N w hN1 (by omega))
    have HS := hid (divL_sum N hN1 four4G)
    have hll := divL_len N (rootN N)
    have hrr := rootN_le (n := N) (by omega)
    have HI := hid (fun d (hd : d ∈ Sq.divL N (rootN N)) => divL_in hN1 hd)
    have hbd := divS_bd (N := N) (G := four4G) (B := 2000) (fun d h1 h2 => four4G_bd d (by omega)) (by omega) N (Nat.le_refl _)
    obtain ⟨S, hS⟩ : ∃ S, divS N four4G N = S := ⟨_, rfl⟩
    rw [hS] at HS HA0 hbd
    have hSb : -1000000000000 ≤ S ∧ S ≤ 1000000000000 := by omega
    have HA := hid (show sum4Ans (N : Int) = some (8 * S) from HA0.out)
    obtain ⟨L, hL⟩ : ∃ L, Sq.divL N (rootN N) = L := ⟨_, rfl⟩
    rw [hL] at HD HS hll HI
    have HW := hid (wsum_sumI four4G 2000 (by omega) (by omega) L (by omega) (fun d hd => by have h9 := HI.out d hd; exact four4G_bd d (by omega)) (fun i => four4G (L.getD i 0)) (fun i h => by simp [h]))
    have HLN := hid (ofNats_len L)
    clear h HA0 hbd hS hL hll hrr
    go_enter Try.func21, Try.ntmps21
    go_wp2_with (first
      | (go_at_call 37; refine (isSumOfSome_as _ _ _ _ HB.out).mono ?_; rintro e w2 ⟨rfl, rfl⟩)
      | (go_at_call 39; refine (HD.out _).mono ?_; rintro e w2 ⟨v, rfl, hO, hL2⟩; have HO := hid hO; have HL2 := hid hL2; clear hO hL2)
      | (go_at_call 38; refine (sumOver_any v (ofNats L) 41 #[] (fun i => four4G (L.getD i 0)) _ Try.call41 HO.out.ints (fun i w1 hi hL1 => by rw [HLN.out] at hi; rw [ofNats_at L i hi]; refine (four4Closure_any i L[i] w1 (by have := HI.out L[i] (List.getElem_mem hi); omega)).mono ?_; rintro e w2 ⟨rfl, rfl⟩; exact ⟨by simp [hi], Later.refl _⟩)).mono ?_; rintro e w3 ⟨rfl, hL3⟩; rw [HLN.out, HW.out, HS.out]; have HL3 := hid (HL2.out.trans hL3); clear hL3))
    go_ret2
    exact ⟨by rw [HA.out]; rfl, HL3.out⟩
  · have HA := hid (show sum4Ans n = none from if_neg h)
    have HB := hid (inB_false h)
    clear h
    go_enter Try.func21, Try.ntmps21
    go_wp2_with (go_at_call 37; refine (isSumOfSome_as _ _ _ _ HB.out).mono ?_; rintro e w2 ⟨rfl, rfl⟩)
    go_ret2
    exact ⟨by rw [HA.out]; rfl, Later.refl _⟩
end Go.Proofs.Ytcgdegmhajfbaaa
