/- Contracts of MinusOneRoot. -/
import Derived.Test.YtmlnpnglafipbaaMkG
namespace Go.Proofs.Ytmlnpnglafipbaa
open Go.RowKit

def invF : Nat → Int → Int → Int → Int → Int
  | 0, _, _, u, _ => u
  | k + 1, a, b, u, v => if b = 0 then u else invF k b (a - a / b * b) v (wrap64 (u - wrap64 (a / b * v)))
def invG (a b u v : Int) : Int := invF (b.toNat + 1) a b u v
theorem sub_quo (a b : Int) (_hb : 0 < b) : a - a / b * b = a % b := by
  have := Int.mul_ediv_add_emod a b
  have h2 : a / b * b = b * (a / b) := Int.mul_comm _ _
  omega
theorem invF_more (k : Nat) : ∀ (j : Nat) (a b u v : Int), 0 ≤ b → b.toNat < k → b.toNat < j → invF k a b u v = invF j a b u v := by
  induction k with
  | zero => intro j a b u v _ h; omega
  | succ k ih =>
    intro j a b u v h0 h1 h2
    cases j with
    | zero => omega
    | succ j =>
      unfold invF
      split
      · rfl
      · rename_i hb
        rw [sub_quo a b (by omega)]
        have p1 := Int.emod_nonneg a hb
        have p2 := Int.emod_lt_of_pos a (show 0 < b by omega)
        exact ih j b _ _ _ p1 (by omega) (by omega)
theorem invG_zero (a u v : Int) : invG a 0 u v = u := by simp [invG, invF]
theorem invG_step (a b u v : Int) (hb : 0 < b) : invG a b u v = invG b (a - a / b * b) v (wrap64 (u - wrap64 (a / b * v))) := by
  have h := sub_quo a b hb
  have p1 := Int.emod_nonneg a (show b ≠ 0 by omega)
  have p2 := Int.emod_lt_of_pos a hb
  unfold invG
  rw [show invF (b.toNat + 1) a b u v = invF b.toNat b (a - a / b * b) v (wrap64 (u - wrap64 (a / b * v))) by rw [invF, if_neg (by omega)], h]
  exact invF_more _ _ _ _ _ _ p1 (by omega) (by omega)
def remT (u m : Int) : Int := (u.tmod m + m).tmod m
theorem tmod_in (u m : Int) (hm : 1 ≤ m) : -m < u.tmod m ∧ u.tmod m < m := by
  have h := Int.natAbs_tmod u m
  have h2 : u.natAbs % m.natAbs < m.natAbs := Nat.mod_lt _ (by omega)
  omega
theorem remT_in (u m : Int) (hm : 1 ≤ m) : 0 ≤ remT u m ∧ remT u m < m := by
  have h := tmod_in u m hm
  unfold remT
  rw [Int.tmod_eq_emod_of_nonneg (by omega)]
  exact ⟨Int.emod_nonneg _ (by omega), Int.emod_lt_of_pos _ (by omega)⟩
theorem remT_one (u : Int) : remT u 1 = 0 := by
  have := remT_in u 1 (by omega); omega

set_option maxHeartbeats 400000 in
theorem remainder_any (u m : Int) (w : World) (hm : 1 ≤ m ∧ m ≤ 1000000000) :
    Calls Try.prog 85 #[.int .i64 u, .int .i64 m] w fun e w' => e = .returned (.int .i64 (remT u m)) ∧ w = w' := by
  have h1 := tmod_in u m hm.1
  have HR := hid (show remT u m = (u.tmod m + m).tmod m from rfl)
  obtain ⟨r, hr⟩ : ∃ r, u.tmod m = r := ⟨_, rfl⟩
  rw [hr] at h1 HR
  have w1 : IntKind.i64.wrap (r + m) = r + m := by rw [IntWalk.i64_left]; exact IntWalk.wrap64_in _ (by omega)
  have z0 : ¬ m = 0 := by omega
  obtain ⟨s, hs⟩ : ∃ s, (r + m).tmod m = s := ⟨_, rfl⟩
  rw [hs] at HR
  go_enter Try.func85, Try.ntmps85
  go_wp2_with fail
  go_ret
  exact ⟨ret_int HR.out.symm, rfl⟩

set_option maxHeartbeats 1000000 in
theorem inverseModulo_any (a m : Int) (w : World) (ha : 1 ≤ a ∧ a ≤ 1000000000) (hm : 1 ≤ m ∧ m ≤ 1000000000) :
    Calls Try.prog 64 #[.int .i64 a, .int .i64 m] w fun e w' => e = .returned (.int .i64 (remT (invG m a 0 1) m)) ∧ w = w' := by
  have HM := hid hm
  obtain ⟨R, hR⟩ : ∃ R, invG m a 0 1 = R := ⟨_, rfl⟩
  rw [hR]
  go_enter Try.func64, Try.ntmps64
  go_wp2_with fail
  go_loop [5, 6, 7, 8] (fun r s x y => ∃ a b u v : Int, r = .int .i64 a ∧ s = .int .i64 b ∧ x = .int .i64 u ∧ y = .int .i64 v ∧ 0 ≤ b ∧ b ≤ 1000000000 ∧ 0 ≤ a ∧ a ≤ 1000000000 ∧ invG a b u v = R) (fun _ s _ _ => (intOf s).toNat)
  case atStart => exact ⟨m, a, 0, 1, rfl, rfl, rfl, rfl, by omega, by omega, by omega, by omega, hR⟩
  case round =>
    clear hR
    obtain ⟨p, b, u, v, rfl, rfl, rfl, rfl, hb0, hb1, ha0, ha1, hR⟩ := hrel
    have HR := hid hR
    clear hR
    by_cases hb : b = 0
    · have HE := hid (show u = R by have := HR.out; rw [hb, invG_zero] at this; exact this)
      have hd : (b != 0) = false := by simp [hb]
      clear hb
      go_wp2_with fail
      refine (remainder_any u m _ HM.out).mono ?_
      rintro e w' ⟨rfl, rfl⟩
      go_wp2_with fail
      go_ret
      exact ⟨ret_int (by rw [HE.out]), rfl⟩
    · have HS := hid (invG_step p b u v (by omega))
      have hq := sub_quo p b (by omega)
      have e1 := Int.emod_nonneg p hb
      have e2 := Int.emod_lt_of_pos p (show 0 < b by omega)
      have e3 : 0 ≤ p / b := Int.ediv_nonneg ha0 hb0
      have e4 : p / b ≤ p := Int.ediv_le_self _ ha0
      obtain ⟨q, hq0⟩ : ∃ q, p / b = q := ⟨_, rfl⟩
      rw [hq0] at hq e3 e4 HS
      have q1 : p.tdiv b = q := by rw [← hq0]; exact Int.tdiv_eq_ediv_of_nonneg ha0
      have qw : IntKind.i64.wrap q = q := by rw [IntWalk.i64_left]; exact IntWalk.wrap64_in _ (by omega)
      have w1 : IntKind.i64.wrap (q * b) = q * b := by rw [IntWalk.i64_left]; exact IntWalk.wrap64_in _ (by omega)
      have w2 : IntKind.i64.wrap (p - q * b) = p - q * b := by rw [IntWalk.i64_left]; exact IntWalk.wrap64_in _ (by omega)
      have hd : (b != 0) = true := by simp [hb]
      have HB := hid (show 0 ≤ p - q * b ∧ p - q * b < b by omega)
      clear hq0 hq e1 e2
      go_wp2_with fail
      go_round
      case rel => exact ⟨b, p - q * b, v, _, rfl, rfl, rfl, rfl, HB.out.1, by have := HB.out.2; omega, hb0, hb1, by rw [← HR.out, HS.out]⟩
      case measure => have := HB.out; simp [intOf]; omega

set_option maxHeartbeats 1000000 in
theorem mkInverse_any (a m : Int) (w : World) (ha : 1 ≤ a ∧ a ≤ 1000000000) (hm : 1 ≤ m ∧ m ≤ 1000000000) :
    Calls Try.prog 63 #[.int .i64 a, .int .i64 m] w fun e w' => e = .returned (.int .i64 (remT (invG m (a % m) 0 1) m)) ∧ Quiet w w' := by
  have HM := hid hm
  obtain ⟨R, hR⟩ : ∃ R, invG m (a % m) 0 1 = R := ⟨_, rfl⟩
  rw [hR]
  have s1 : a.tmod m = a % m := Int.tmod_eq_emod_of_nonneg (by omega)
  have s2 := Int.emod_nonneg a (show m ≠ 0 by omega)
  have s3 := Int.emod_lt_of_pos a (show 0 < m by omega)
  obtain ⟨s, hs⟩ : ∃ s, a % m = s := ⟨_, rfl⟩
  rw [hs] at s1 s2 s3 hR
  have z0 : ¬ m = 0 := by omega
  clear hs
  go_enter Try.func63, Try.ntmps63
  go_wp2_with fail
  go_quiet (fail)
  have HQ := hid (show Quiet w (w.drewN nq) from ⟨_, rfl⟩)
  generalize w.drewN nq = w1 at HQ ⊢
  go_wp2_with fail
  go_loop [5, 6, 7, 8] (fun r s x y => ∃ a b u v : Int, r = .int .i64 a ∧ s = .int .i64 b ∧ x = .int .i64 u ∧ y = .int .i64 v ∧ 0 ≤ b ∧ b ≤ 1000000000 ∧ 0 ≤ a ∧ a ≤ 1000000000 ∧ invG a b u v = R) (fun _ s _ _ => (intOf s).toNat)
  case atStart => exact ⟨m, s, 0, 1, rfl, rfl, rfl, rfl, by omega, by omega, by omega, by omega, hR⟩
  case round =>
    clear hR
    obtain ⟨p, b, u, v, rfl, rfl, rfl, rfl, hb0, hb1, ha0, ha1, hR⟩ := hrel
    have HR := hid hR
    clear hR s1
    by_cases hb : b = 0
    · have HE := hid (show u = R by have := HR.out; rw [hb, invG_zero] at this; exact this)
      have h1 := tmod_in u m (by omega)
      have HT := hid (show remT u m = (u.tmod m + m).tmod m from rfl)
      obtain ⟨r, hr⟩ : ∃ r, u.tmod m = r := ⟨_, rfl⟩
      rw [hr] at h1 HT
      have w1' : IntKind.i64.wrap (r + m) = r + m := by rw [IntWalk.i64_left]; exact IntWalk.wrap64_in _ (by omega)
      obtain ⟨t, ht⟩ : ∃ t, (r + m).tmod m = t := ⟨_, rfl⟩
      rw [ht] at HT
      have hd : decide (0 < b) = false := decide_eq_false (by omega)
      clear hb
      go_wp2_with fail
      go_ret
      exact ⟨ret_int (by rw [← HE.out, HT.out]), HQ.out⟩
    · have HS := hid (invG_step p b u v (by omega))
      have hq := sub_quo p b (by omega)
      have e1 := Int.emod_nonneg p hb
      have e2 := Int.emod_lt_of_pos p (show 0 < b by omega)
      have e3 : 0 ≤ p / b := Int.ediv_nonneg ha0 hb0
      have e4 : p / b ≤ p := Int.ediv_le_self _ ha0
      obtain ⟨q, hq0⟩ : ∃ q, p / b = q := ⟨_, rfl⟩
      rw [hq0] at hq e3 e4 HS
      have q1 : p.tdiv b = q := by rw [← hq0]; exact Int.tdiv_eq_ediv_of_nonneg ha0
      have qw : IntKind.i64.wrap q = q := by rw [IntWalk.i64_left]; exact IntWalk.wrap64_in _ (by omega)
      have w1' : IntKind.i64.wrap (q * b) = q * b := by rw [IntWalk.i64_left]; exact IntWalk.wrap64_in _ (by omega)
      have w2 : IntKind.i64.wrap (p - q * b) = p - q * b := by rw [IntWalk.i64_left]; exact IntWalk.wrap64_in _ (by omega)
      have hd : decide (0 < b) = true := decide_eq_true (by omega)
      have HB := hid (show 0 ≤ p - q * b ∧ p - q * b < b by omega)
      clear hq0 hq e1 e2
      go_wp2_with fail
      go_round
      case rel => exact ⟨b, p - q * b, v, _, rfl, rfl, rfl, rfl, HB.out.1, by have := HB.out.2; omega, hb0, hb1, by rw [← HR.out, HS.out]⟩
      case measure => have := HB.out; simp [intOf]; omega

def minusAns (zs : List Int) : Option Int := if mkGoodW zs = true then some (remT (invG (zs.getD 2 0) (zs.getD 0 0 % zs.getD 2 0) 0 1) (zs.getD 2 0) * (zs.getD 1 0 % zs.getD 2 0) % zs.getD 2 0) else none
theorem minus_same (x y z : Int) (hx : 1 ≤ x) (hxy : x ≤ y) (hyz : y ≤ z) (he : x * x + y * y + z * z = 3 * x * y * z) :
    (y * remT (invG z x 0 1) z) % z = (remT (invG z (x % z) 0 1) z * (y % z)) % z := by
  by_cases hz : x < z
  · rw [Int.emod_eq_of_lt (by omega) hz, Int.mul_comm y, Int.mul_emod, Int.mul_emod (remT _ _) (y % z), Int.emod_emod]
  · obtain rfl : x = z := by omega
    obtain rfl : y = x := by omega
    have h1 : y * y * (y - 1) = 0 := by grind
    have h2 : y = 1 := by
      rcases Int.mul_eq_zero.1 h1 with h | h
      · rcases Int.mul_eq_zero.1 h with h | h <;> omega
      · omega
    subst h2
    rw [Int.emod_one, Int.emod_one]

set_option maxRecDepth 20000 in
set_option maxHeartbeats 1000000 in
theorem specMinusOneRoot_any (v : Value) (zs : List Int) (w : World) (h : Ints w v zs) :
    Calls Try.prog 34 #[v] w fun e w' => NumAns w (minusAns zs) e w' := by
  cases hg : mkGoodW zs
  · have HA := hid (show minusAns zs = none by unfold minusAns; rw [if_neg (by simp [hg])])
    have HG := hid hg
    have H := hid h
    obtain ⟨a, cap, rfl, hl, _⟩ := id h
    clear hg h
    go_enter Try.func34, Try.ntmps34
    go_wp2_with fail
    refine (mkGood_as _ zs false _ HG.out H.out).mono ?_
    rintro e w' ⟨rfl, n, rfl⟩
    go_wp2_with fail
    go_ret2
    exact ⟨by rw [HA.out]; rfl, Later.drewN _ _⟩
  · obtain ⟨x, y, z, rfl, hx, hy, hz, hxy, hyz, he⟩ := mkGoodW_three hg
    obtain ⟨x', y', z', ad, cap, e1, rfl, c0, c1, c2⟩ := h.three rfl
    simp only [List.cons.injEq, and_true] at e1
    obtain ⟨rfl, rfl, rfl⟩ := e1
    have HG := hid hg
    have H := hid h
    have HA := hid (show minusAns [x, y, z] = some (remT (invG z (x % z) 0 1) z * (y % z) % z) by unfold minusAns; rw [if_pos hg]; rfl)
    clear hg h he
    have HI := hid (fun w => mkInverse_any x z w hx hz)
    have i1 := remT_in (invG z (x % z) 0 1) z hz.1
    obtain ⟨I, hI⟩ : ∃ I, remT (invG z (x % z) 0 1) z = I := ⟨_, rfl⟩
    rw [hI] at HA HI i1
    have y1 := Int.emod_nonneg y (show z ≠ 0 by omega)
    have y2 := Int.emod_lt_of_pos y (show 0 < z by omega)
    have t1 : y.tmod z = y % z := Int.tmod_eq_emod_of_nonneg (by omega)
    obtain ⟨yz, hyz0⟩ : ∃ yz, y % z = yz := ⟨_, rfl⟩
    rw [hyz0] at HA y1 y2 t1
    have m1 : 0 ≤ I * yz := Int.mul_nonneg i1.1 y1
    have m2 : I * yz ≤ 1000000000 * 1000000000 := Int.mul_le_mul (by omega) (by omega) y1 (by omega)
    have w1 : IntKind.i64.wrap (I * yz) = I * yz := by rw [IntWalk.i64_left]; exact IntWalk.wrap64_in _ (by omega)
    have t2 : (I * yz).tmod z = I * yz % z := Int.tmod_eq_emod_of_nonneg m1
    obtain ⟨r, hr⟩ : ∃ r, I * yz % z = r := ⟨_, rfl⟩
    rw [hr] at HA t2
    have z0 : ¬ z = 0 := by omega
    clear hr hyz0 hI m1 m2 i1 y1 y2
    go_enter Try.func34, Try.ntmps34
    go_wp2_with fail
    refine (mkGood_as (.slice (some ad) 3 cap) [x, y, z] true _ HG.out H.out).mono ?_
    rintro e w' ⟨rfl, n, rfl⟩
    replace c0 := (Later.drewN w n).cell c0
    replace c1 := (Later.drewN w n).cell c1
    replace c2 := (Later.drewN w n).cell c2
    have HL := hid (Later.drewN w n)
    generalize w.drewN n = w1' at c0 c1 c2 HL ⊢
    go_wp2_with fail
    go_quiet (first | (go_at_call 63; exact Calls.quiet_of ((HI.out _).mono fun _ _ h => ⟨h.1, h.2⟩)))
    go_wp2_with fail
    go_ret2
    exact ⟨by rw [HA.out]; rfl, HL.out.trans (Later.drewN _ _)⟩

set_option maxRecDepth 20000 in
set_option maxHeartbeats 1000000 in
theorem implMinusOneRoot_any (v : Value) (zs : List Int) (w : World) (h : Ints w v zs) :
    Calls Try.prog 35 #[v] w fun e w' => NumAns w (minusAns zs) e w' := by
  cases hg : mkGoodW zs
  · have HA := hid (show minusAns zs = none by unfold minusAns; rw [if_neg (by simp [hg])])
    have HG := hid hg
    have H := hid h
    obtain ⟨a, cap, rfl, hl, _⟩ := id h
    clear hg h
    go_enter Try.func35, Try.ntmps35
    go_wp2_with fail
    refine (implIsMarkov_any _ zs _ H.out).mono ?_
    rintro e w' ⟨rfl, hL⟩
    rw [HG.out]
    have HL := hid hL
    clear hL
    go_wp2_with fail
    go_ret2
    exact ⟨by rw [HA.out]; rfl, HL.out⟩
  · obtain ⟨x, y, z, rfl, hx, hy, hz, hxy, hyz, he⟩ := mkGoodW_three hg
    obtain ⟨x', y', z', ad, cap, e1, rfl, c0, c1, c2⟩ := h.three rfl
    simp only [List.cons.injEq, and_true] at e1
    obtain ⟨rfl, rfl, rfl⟩ := e1
    have HG := hid hg
    have H := hid h
    have HA := hid (show minusAns [x, y, z] = some (y * remT (invG z x 0 1) z % z) by unfold minusAns; rw [if_pos hg, minus_same x y z hx.1 hxy hyz he]; rfl)
    clear hg h he
    have HI := hid (fun w => inverseModulo_any x z w hx hz)
    have i1 := remT_in (invG z x 0 1) z hz.1
    obtain ⟨I, hI⟩ : ∃ I, remT (invG z x 0 1) z = I := ⟨_, rfl⟩
    rw [hI] at HA HI i1
    have m1 : 0 ≤ y * I := Int.mul_nonneg (by omega) i1.1
    have m2 : y * I ≤ 1000000000 * 1000000000 := Int.mul_le_mul (by omega) (by omega) i1.1 (by omega)
    have w1 : IntKind.i64.wrap (y * I) = y * I := by rw [IntWalk.i64_left]; exact IntWalk.wrap64_in _ (by omega)
    have t2 : (y * I).tmod z = y * I % z := Int.tmod_eq_emod_of_nonneg m1
    obtain ⟨r, hr⟩ : ∃ r, y * I % z = r := ⟨_, rfl⟩
    rw [hr] at HA t2
    have z0 : ¬ z = 0 := by omega
    clear hr hI m1 m2 i1
    go_enter Try.func35, Try.ntmps35
    go_wp2_with fail
    refine (implIsMarkov_any (.slice (some ad) 3 cap) [x, y, z] _ H.out).mono ?_
    rintro e w2 ⟨rfl, hL⟩
    rw [HG.out]
    replace c0 := hL.cell c0
    replace c1 := hL.cell c1
    replace c2 := hL.cell c2
    have HL := hid hL
    clear hL
    go_wp2_with fail
    go_quiet (first | (go_at_call 64; exact Calls.quiet_of_same ((HI.out _).mono fun _ _ h => ⟨h.1, h.2.symm⟩)))
    go_wp2_with fail
    go_ret2
    exact ⟨by rw [HA.out]; rfl, HL.out.trans (Later.drewN _ _)⟩
end Go.Proofs.Ytmlnpnglafipbaa
