/- The descent of two squares: its lists; nearest remainders in both; the model's walk. -/
import Derived.Test.YtofmmegpadojlaaSqB
import Derived.Test.YtofmmegpadojlaaSqH
import Derived.Test.YtofmmegpadojlaaRowsKI
import Derived.Test.YtofmmegpadojlaaBasB
import Derived.Deep.AppendLies
import Derived.Deep.RegionHeld3
namespace Go.Proofs.Ytofmmegpadojlaa
open Go.RowKit

theorem mulBdC {x y B C : Int} (hx : -B ≤ x ∧ x ≤ B) (hy : -C ≤ y ∧ y ≤ C) : -(B * C) ≤ x * y ∧ x * y ≤ B * C := by
  constructor
  · have h1 := Int.mul_nonneg (show 0 ≤ B + x by omega) (show 0 ≤ C + y by omega)
    have h2 := Int.mul_nonneg (show 0 ≤ B - x by omega) (show 0 ≤ C - y by omega)
    grind
  · have h1 := Int.mul_nonneg (show 0 ≤ B + x by omega) (show 0 ≤ C - y by omega)
    have h2 := Int.mul_nonneg (show 0 ≤ B - x by omega) (show 0 ≤ C + y by omega)
    grind
theorem minusN_root {p : Nat} (hp : Sq.Prim p) (h3 : p % 4 ≠ 3) : 1 ≤ Sq.minusN p ∧ Sq.minusN p < p ∧ p ∣ Sq.minusN p * Sq.minusN p + 1 := by
  obtain ⟨b, b1, b2, b3, b4⟩ := base_any hp h3
  have hex : ∃ r, 1 ≤ r ∧ r < p ∧ rootQ p r = true := by
    rcases Nat.lt_or_ge b 2 with h | h
    · have hb : b = 1 := by omega
      refine ⟨1, by omega, hp.1, ?_⟩
      have := b3 hb
      simp only [rootQ, beq_iff_eq]; exact Nat.mod_eq_zero_of_dvd this
    · have hd := b4 h
      have hlt := Nat.mod_lt (b ^ ((p - 1) / 4)) (show 0 < p by omega)
      refine ⟨b ^ ((p - 1) / 4) % p, ?_, hlt, by simp only [rootQ, beq_iff_eq]; exact Nat.mod_eq_zero_of_dvd hd⟩
      exact (min_ans hp hd hlt).1
  rw [minusN_def]
  cases h : Sq.firstI (rootQ p) (p - 1) 1 with
  | none =>
    obtain ⟨r, r1, r2, r3⟩ := hex
    have := Sq.firstI_none _ _ _ h r r1 (by omega)
    rw [r3] at this; cases this
  | some r =>
    obtain ⟨g1, g2, g3, _⟩ := Sq.firstI_some _ _ _ _ h
    simp only [rootQ, beq_iff_eq] at g3
    exact ⟨g1, by simp only [Option.getD_some]; omega, Nat.dvd_of_mod_eq_zero g3⟩
/-- The lists from numbers a, b with a multiple m on. -/
def run2 (p : Int) : Nat → Int → Int → Int → List (List Int)
  | 0, a, b, m => [[a, b, m]]
  | f + 1, a, b, m => [a, b, m] :: (if m ≤ 1 then [] else run2 p f (Sq.st2 a b m).1 (Sq.st2 a b m).2 (((Sq.st2 a b m).1 * (Sq.st2 a b m).1 + (Sq.st2 a b m).2 * (Sq.st2 a b m).2) / p))
theorem run2_end {p : Int} {f : Nat} {a b m : Int} (h : m ≤ 1) : run2 p f a b m = [[a, b, m]] := by
  cases f with
  | zero => rfl
  | succ f => unfold run2; rw [if_pos h]
theorem run2_go {p : Int} {f : Nat} {a b m r : Int} (h : 1 < m) (hf : m ≤ f) (hd : Sq.D2 p (Sq.st2 a b m).1 (Sq.st2 a b m).2 r) (hp : 0 < p) : run2 p f a b m = [a, b, m] :: run2 p (f - 1) (Sq.st2 a b m).1 (Sq.st2 a b m).2 r := by
  obtain ⟨g, rfl⟩ : ∃ g, f = g + 1 := ⟨f - 1, by omega⟩
  conv => lhs; unfold run2
  rw [if_neg (by omega), hd.eq, Int.mul_ediv_cancel _ (by omega)]; rfl
def two0 (p : Nat) : Int := ((Sq.minusN p : Nat) : Int) * ((Sq.minusN p : Nat) : Int) + 1
def twoL (p : Nat) : List (List Int) := run2 p (two0 p / p).toNat (Sq.minusN p : Nat) 1 (two0 p / p)
def twoAns (p : Int) : Option (List (List Int)) := if rootOk p = true then some (twoL p.toNat) else none
theorem two_start {p : Nat} (hp : Sq.Prim p) (h3 : p % 4 ≠ 3) : ∃ m : Nat, two0 p = m * p ∧ two0 p / p = m ∧ Sq.D2 p (Sq.minusN p : Nat) 1 m ∧ m < p := by
  obtain ⟨r1, r2, ⟨m, hm⟩⟩ := minusN_root hp h3
  have h2 := hp.1
  have e : two0 p = (m : Int) * p := by
    unfold two0; rw [← Int.natCast_mul, ← Int.natCast_mul, Nat.mul_comm m p, ← hm]; simp
  have hlt : m < p := by
    refine Nat.not_le.1 fun h => ?_
    have h4 := Nat.mul_le_mul_left p h
    have h5 : Sq.minusN p * Sq.minusN p ≤ (p - 1) * (p - 1) := Nat.mul_le_mul (by omega) (by omega)
    have h6 : p * p = (p - 1) * (p - 1) + 2 * (p - 1) + 1 := by
      obtain ⟨q, rfl⟩ : ∃ q, p = q + 1 := ⟨p - 1, by omega⟩
      simp only [Nat.add_sub_cancel]
      rw [Nat.mul_add, Nat.add_mul]; omega
    omega
  refine ⟨m, e, by rw [e]; exact Int.mul_ediv_cancel _ (by omega), ⟨by omega, by omega, ?_, by omega⟩, hlt⟩
  rw [← e]; unfold two0; omega
set_option maxHeartbeats 1000000 in
theorem sqNear_any (a m : Int) (w : World) (_ha : -1000000000 ≤ a ∧ a ≤ 1000000000) (hm : 1 ≤ m ∧ m ≤ 1000000) :
    Calls Try.prog 61 #[.int .i64 a, .int .i64 m] w fun e w' => e = .returned (.int .i64 (Sq.near a m)) ∧ w = w' := by
  have h1 := tmod_in a m hm.1
  have HR := hid (show (a.tmod m + m).tmod m = a % m from remT_eq a m hm.1)
  have HN := hid (show Sq.near a m = if 2 * (a % m) > m then a % m - m else a % m from rfl)
  have hb1 := Int.emod_nonneg a (show m ≠ 0 by omega)
  have hb2 := Int.emod_lt_of_pos a (show 0 < m by omega)
  obtain ⟨r, hr⟩ : ∃ r, a.tmod m = r := ⟨_, rfl⟩
  rw [hr] at h1 HR
  have w1 : IntKind.i64.wrap (r + m) = r + m := by rw [IntWalk.i64_left]; exact IntWalk.wrap64_in _ (by omega)
  have z0 : ¬ m = 0 := by omega
  obtain ⟨s, hs⟩ : ∃ s, (r + m).tmod m = s := ⟨_, rfl⟩
  have HS := HR.out
  rw [hs] at HS
  rw [← HS] at HN hb1 hb2
  clear HS HR
  by_cases hgt : m < 2 * s
  · have HA := hid (show Sq.near a m = s - m by rw [HN.out, if_pos (by omega)])
    clear HN
    go_enter Try.func61, Try.ntmps61
    go_wp2_with fail
    go_ret
    exact ⟨by rw [HA.out]; rfl, rfl⟩
  · have HA := hid (show Sq.near a m = s by rw [HN.out, if_neg (by omega)])
    clear HN
    go_enter Try.func61, Try.ntmps61
    go_wp2_with fail
    go_ret
    exact ⟨by rw [HA.out]; rfl, rfl⟩
set_option maxHeartbeats 1000000 in
theorem nearest_any (a m : Int) (w : World) (_ha : -1000000000 ≤ a ∧ a ≤ 1000000000) (hm : 1 ≤ m ∧ m ≤ 1000000) :
    Calls Try.prog 107 #[.int .i64 a, .int .i64 m] w fun e w' => e = .returned (.int .i64 (Sq.near a m)) ∧ w = w' := by
  have HR := hid (fun w => remainder_any a m w ⟨by omega, by omega⟩)
  rw [remT_eq a m hm.1] at HR
  have HN := hid (show Sq.near a m = if 2 * (a % m) > m then a % m - m else a % m from rfl)
  have hb1 := Int.emod_nonneg a (show m ≠ 0 by omega)
  have hb2 := Int.emod_lt_of_pos a (show 0 < m by omega)
  obtain ⟨s, hs⟩ : ∃ s, a % m = s := ⟨_, rfl⟩
  rw [hs] at HR HN hb1 hb2
  clear hs
  by_cases hgt : m < 2 * s
  · have HA := hid (show Sq.near a m = s - m by rw [HN.out, if_pos (by omega)])
    clear HN
    go_enter Try.func107, Try.ntmps107
    go_wp2_with (go_at_call 111; refine (HR.out _).mono ?_; rintro e w2 ⟨rfl, rfl⟩)
    go_ret
    exact ⟨by rw [HA.out]; rfl, rfl⟩
  · have HA := hid (show Sq.near a m = s by rw [HN.out, if_neg (by omega)])
    clear HN
    go_enter Try.func107, Try.ntmps107
    go_wp2_with (go_at_call 111; refine (HR.out _).mono ?_; rintro e w2 ⟨rfl, rfl⟩)
    go_ret
    exact ⟨by rw [HA.out]; rfl, rfl⟩
theorem mostA_any (a : Int) (w : World) : Calls Try.prog 109 #[.int .i64 a, .int .i64 (-a)] w fun e w' => e = .returned (.int .i64 (Sq.iabs a)) ∧ w = w' := by
  by_cases h : -a < a
  · have HA := hid (show Sq.iabs a = a by unfold Sq.iabs; rw [if_neg (by omega)])
    go_enter Try.func109, Try.ntmps109
    go_wp2_with fail
    go_ret
    exact ⟨by rw [HA.out]; rfl, rfl⟩
  · have HA := hid (show Sq.iabs a = -a by unfold Sq.iabs; split <;> omega)
    go_enter Try.func109, Try.ntmps109
    go_wp2_with fail
    go_ret
    exact ⟨by rw [HA.out]; rfl, rfl⟩
theorem absS_any (a : Int) (w : World) (ha : -1000000000000000 ≤ a ∧ a ≤ 1000000000000000) : Calls Try.prog 62 #[.int .i64 a] w fun e w' => e = .returned (.int .i64 (Sq.iabs a)) ∧ w = w' := by
  go_enter Try.func62, Try.ntmps62
  go_wp2_with fail
  refine (mostA_any _ _).mono ?_
  rintro e w' ⟨rfl, rfl⟩
  go_wp2_with fail
  go_ret
  exact ⟨rfl, rfl⟩
theorem Sq.D2.bd {p a b m : Int} (h : Sq.D2 p a b m) (hp : 0 < p) (hp2 : p ≤ 1000000) : (0 ≤ a ∧ a ≤ 1000000) ∧ (0 ≤ b ∧ b ≤ 1000000) ∧ 0 ≤ m ∧ m ≤ 1000000 := by
  obtain ⟨h1, h2, h3⟩ := h.le hp
  have := h.a0; have := h.b0; have := h.mp
  omega
theorem near_bd (a m : Int) (hm : 1 ≤ m ∧ m ≤ 1000000) : -1000000 ≤ Sq.near a m ∧ Sq.near a m ≤ 1000000 := by
  have := Sq.near_in a m (by omega); omega
theorem iabs_bd {x B : Int} (h : -B ≤ x ∧ x ≤ B) : 0 ≤ Sq.iabs x ∧ Sq.iabs x ≤ B := by
  unfold Sq.iabs; split <;> omega
theorem quoI {x m : Int} (hx : 0 ≤ x) : x.tdiv m = x / m := Int.tdiv_eq_ediv_of_nonneg hx
end Go.Proofs.Ytofmmegpadojlaa
