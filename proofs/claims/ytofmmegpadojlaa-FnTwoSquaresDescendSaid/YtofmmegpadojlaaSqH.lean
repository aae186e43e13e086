/- Powers modulo a number, and the least root of minus one in the program. -/
import Derived.Test.YtofmmegpadojlaaSqEG
namespace Go.Proofs.Ytofmmegpadojlaa
open Go.RowKit

theorem pm2 (m x : Nat) : pm m [x, x] = x * x % m := by simp [pm, Nat.mod_mul_mod]
theorem pm3 (m x b : Nat) : pm m [x, x, b] = x * x * b % m := by simp [pm, Nat.mod_mul_mod]
theorem pow_half {m b e : Nat} (_hm : 2 ≤ m) (h : e % 2 = 0) : pm m [b ^ (e / 2) % m, b ^ (e / 2) % m] = b ^ e % m := by
  rw [pm2, ← Nat.mul_mod, ← Nat.pow_add]
  congr 2; omega
theorem pow_odd {m b e : Nat} (_hm : 2 ≤ m) (h : ¬ e % 2 = 0) : pm m [b ^ (e / 2) % m, b ^ (e / 2) % m, b] = b ^ e % m := by
  rw [pm3, Nat.mul_mod, ← Nat.mul_mod (b ^ (e / 2)), ← Nat.pow_add, ← Nat.mul_mod, ← Nat.pow_succ]
  congr 2; omega
theorem productModulo_later (m : Nat) (v : Value) (l : List Nat) (w : World) (hm : 1 ≤ m ∧ m ≤ 1000000) (hl : ∀ f ∈ l, f ≤ 1000000) (h : Ints w v (ofNats l)) (r : Nat) (hr : pm m l = r) :
    Calls Try.prog 64 #[.int .i64 m, v] w fun e w' => e = .returned (.int .i64 (r : Nat)) ∧ w = w' := by
  subst hr; exact productModulo_any m v l w hm hl h
set_option maxHeartbeats 1000000 in
theorem powerModulo_any (m : Nat) (hm : 2 ≤ m ∧ m ≤ 1000000) (b : Nat) (hb : b ≤ 1000000) : ∀ (n e : Nat) (w : World), e < n → e ≤ 1000000 →
    Calls Try.prog 65 #[.int .i64 b, .int .i64 e, .int .i64 m] w fun x w' => x = .returned (.int .i64 (b ^ e % m : Nat)) ∧ Later w w' := by
  obtain ⟨hm2, hm6⟩ := hm
  intro n
  induction n with
  | zero => intro e w h; omega
  | succ n ih =>
    intro e w hen he6
    by_cases h0 : e = 0
    · subst h0
      have HA := hid (show b ^ 0 % m = 1 by rw [Nat.pow_zero, Nat.mod_eq_of_lt (by omega)])
      clear ih
      go_enter Try.func65, Try.ntmps65
      go_wp2_with fail
      go_ret
      exact ⟨by rw [HA.out]; rfl, Later.refl _⟩
    · have hd0 : ((e : Int) == 0) = false := by simp [h0]
      have hq : ((e : Int)).tdiv 2 = ((e / 2 : Nat) : Int) := tdivN e 2
      have hlt := Nat.mod_lt (b ^ (e / 2)) (show 0 < m by omega)
      have HC := hid (fun w => ih (e / 2) w (by omega) (by omega))
      obtain ⟨h, hh⟩ : ∃ h, b ^ (e / 2) % m = h := ⟨_, rfl⟩
      have HP2 := hid (fun hr => pow_half (m := m) (b := b) (e := e) hm2 hr)
      have HP3 := hid (fun hr => pow_odd (m := m) (b := b) (e := e) hm2 hr)
      rw [hh] at hlt HC HP2 HP3
      obtain ⟨q, hqq⟩ : ∃ q, e / 2 = q := ⟨_, rfl⟩
      rw [hqq] at hq HC
      have hq2 : (e : Int) / 2 = (q : Int) := by omega
      obtain ⟨r, hr⟩ : ∃ r : Nat, e % 2 = r := ⟨_, rfl⟩
      have hrm : ((e : Int)).tmod 2 = (r : Int) := by rw [← hr]; exact tmodN e 2
      have hr2 : r < 2 := by omega
      rw [hr] at HP2 HP3
      obtain ⟨A, hA⟩ : ∃ A, b ^ e % m = A := ⟨_, rfl⟩
      rw [hA] at HP2 HP3 ⊢
      have hwh : IntKind.i64.wrap (h : Int) = h := by rw [IntWalk.i64_left]; exact IntWalk.wrap64_in _ (by omega)
      clear ih hh hqq hr hA
      by_cases hr0 : r = 0
      · have hd : ((r : Int) == 0) = true := by simp [hr0]
        have HE := hid (HP2.out hr0)
        go_enter Try.func65, Try.ntmps65
        go_wp2_with (first
          | (go_at_call 65; refine (HC.out _).mono ?_; rintro e2 w2 ⟨rfl, hL⟩; have HL := hid hL; clear hL)
          | (go_at_call 64; refine (productModulo_later m _ [h, h] _ ⟨by omega, hm6⟩ (by intro f hf; simp at hf; omega) (litS w2 [(h : Int), (h : Int)] (by simp) 2 rfl _ rfl).ints A HE.out).mono ?_; rintro e3 w3 ⟨rfl, rfl⟩))
        go_ret
        exact ⟨rfl, HL.out.trans (Later.alloc _ _)⟩
      · have hd : ((r : Int) == 0) = false := by simp [hr0]
        have HE := hid (HP3.out hr0)
        go_enter Try.func65, Try.ntmps65
        go_wp2_with (first
          | (go_at_call 65; refine (HC.out _).mono ?_; rintro e2 w2 ⟨rfl, hL⟩; have HL := hid hL; clear hL)
          | (go_at_call 64; refine (productModulo_later m _ [h, h, b] _ ⟨by omega, hm6⟩ (by intro f hf; simp at hf; omega) (litS w2 [(h : Int), (h : Int), (b : Int)] (by simp) 3 rfl _ rfl).ints A HE.out).mono ?_; rintro e3 w3 ⟨rfl, rfl⟩))
        go_ret
        exact ⟨rfl, HL.out.trans (Later.alloc _ _)⟩
theorem min_ans {p r : Nat} (hp : Sq.Prim p) (h : p ∣ r * r + 1) (hr : r < p) : 1 ≤ r ∧ Sq.minusN p = min r (p - r) := by
  have h1 : 1 ≤ r := by
    rcases Nat.eq_zero_or_pos r with h0 | h0
    · subst h0
      have := Nat.le_of_dvd (by omega) h
      have := hp.1; omega
    · exact h0
  exact ⟨h1, Sq.minusN_of hp h1 hr h⟩
theorem dvd_iff_last {p r : Nat} (hp : 1 < p) : r * r % p = p - 1 ↔ p ∣ r * r + 1 := by
  constructor
  · intro h
    refine Nat.dvd_of_mod_eq_zero ?_
    rw [Nat.add_mod, h, Nat.mod_eq_of_lt hp, show p - 1 + 1 = p by omega, Nat.mod_self]
  · rintro ⟨c, hc⟩
    have h1 : r * r = (p - 1) + p * (c - 1) := by
      rcases Nat.eq_zero_or_pos c with h | h
      · subst h; omega
      · have : p * c = p * (c - 1) + p := by rw [show c = (c - 1) + 1 by omega, Nat.mul_add]; simp
        omega
    rw [h1, Nat.add_mul_mod_self_left, Nat.mod_eq_of_lt (by omega)]
theorem base_any {p : Nat} (hp : Sq.Prim p) (h3 : p % 4 ≠ 3) : ∃ b, 1 ≤ b ∧ b < p ∧ (b = 1 → p ∣ 1 * 1 + 1) ∧ (2 ≤ b → p ∣ (b ^ ((p - 1) / 4) % p) * (b ^ ((p - 1) / 4) % p) + 1) := by
  have h2 := hp.1
  by_cases hp2 : p = 2
  · subst hp2; exact ⟨1, by omega, by omega, fun _ => ⟨1, rfl⟩, fun h => by omega⟩
  · have hodd : p % 2 ≠ 0 := fun h => hp.2 2 (by omega) (by omega) (Nat.dvd_of_mod_eq_zero h)
    obtain ⟨b, b1, b2, b3⟩ := Sq.base_ex (k := (p - 1) / 4) hp (by omega)
    refine ⟨b, by omega, b2, fun h => by omega, fun _ => ?_⟩
    rw [← dvd_iff_last (by omega)] at b3 ⊢
    rw [← Nat.mul_mod]; exact b3
set_option maxHeartbeats 2000000 in
theorem implRootOfMinusOne_any (p : Int) (w : World) : Calls Try.prog 11 #[.int .i64 p] w fun e w' => NumAns w (sqMinusAns p) e w' := by
  cases hP : primUp p 1000000
  · have HP := hid hP
    have HA := hid (show sqMinusAns p = none by unfold sqMinusAns rootOk; rw [hP]; rfl)
    clear hP
    go_enter Try.func11, Try.ntmps11
    go_wp2_with (go_at_call 63; refine (isPrimeUpTo_as p 1000000 _ _ (by omega) HP.out).mono ?_; rintro e w2 ⟨rfl, rfl⟩)
    go_ret2
    exact ⟨by rw [HA.out]; rfl, Later.refl _⟩
  · obtain ⟨h1, h2, hprim⟩ := primUp_iff.1 hP
    obtain ⟨n, rfl⟩ : ∃ n : Nat, p = (n : Int) := ⟨p.toNat, by omega⟩
    have HP := hid hP
    obtain ⟨r, hr⟩ : ∃ r : Nat, n % 4 = r := ⟨_, rfl⟩
    have hrt : (n : Int).tmod 4 = (r : Int) := by rw [← hr]; exact tmodN n 4
    have HRO := hid (show rootOk (n : Int) = decide ((r : Int) ≠ 3) by unfold rootOk; rw [hP, hrt]; rfl)
    have HPR := hid (show Sq.Prim n from hprim)
    have HR := hid hr
    have hrb : r < 4 := by omega
    clear hP hprim hr
    by_cases h3 : r = 3
    · have hd : ((r : Int) == 3) = true := by simp [h3]
      have HA := hid (show sqMinusAns (n : Int) = none by unfold sqMinusAns; rw [HRO.out, h3]; rfl)
      go_enter Try.func11, Try.ntmps11
      go_wp2_with (go_at_call 63; refine (isPrimeUpTo_as n 1000000 _ _ (by omega) HP.out).mono ?_; rintro e w2 ⟨rfl, rfl⟩)
      go_ret2
      exact ⟨by rw [HA.out]; rfl, Later.refl _⟩
    · have hd : ((r : Int) == 3) = false := by simp; omega
      have HA := hid (show sqMinusAns (n : Int) = some (Sq.minusN n : Nat) by unfold sqMinusAns; rw [HRO.out, if_pos (by simp; omega)]; rfl)
      obtain ⟨b, b1, b2, b3, b4⟩ := base_any HPR.out (by rw [HR.out]; exact h3)
      obtain ⟨E, hE⟩ : ∃ E, (n - 1) / 4 = E := ⟨_, rfl⟩
      rw [hE] at b4
      have hq2 : ((n : Int) - 1) / 4 = (E : Int) := by omega
      have hq : ((n : Int) - 1).tdiv 4 = (E : Int) := by rw [Int.tdiv_eq_ediv_of_nonneg (by omega)]; exact hq2
      have hE6 : E ≤ 1000000 := by omega
      have HB3 := hid b3
      have HB4 := hid b4
      have HPW := hid (fun k (hk : k ≤ 1000000) w => powerModulo_any n ⟨by omega, by omega⟩ k hk (E + 1) E w (by omega) hE6)
      clear b3 b4 hE
      go_enter Try.func11, Try.ntmps11
      go_wp2_with (go_at_call 63; refine (isPrimeUpTo_as n 1000000 _ _ (by omega) HP.out).mono ?_; rintro e w2 ⟨rfl, rfl⟩)
      go_loopw [4, 5] (fun s i wr => ∃ x k : Nat, s = .int .i64 x ∧ i = .int .i64 k ∧ x < n ∧ 2 ≤ k ∧ k ≤ b + 1 ∧ (k = b + 1 → n ∣ x * x + 1) ∧ Later w wr) (fun _ i _ => b + 1 - (intOf i).toNat)
      case atStart => exact ⟨1, 2, rfl, rfl, by omega, by omega, by omega, fun h => HB3.out (by omega), Later.refl _⟩
      case round =>
        obtain ⟨x, k, rfl, rfl, hx, hk2, hkb, hdv, hL⟩ := hrel
        have HL := hid hL
        have HDV := hid hdv
        clear hL hdv
        have hwx : IntKind.i64.wrap (x : Int) = x := by rw [IntWalk.i64_left]; exact IntWalk.wrap64_in _ (by omega)
        obtain ⟨y, hy⟩ : ∃ y, x * x % n = y := ⟨_, rfl⟩
        have hyn : y < n := by rw [← hy]; exact Nat.mod_lt _ (by omega)
        have HY := hid (show pm n [x, x] = y by rw [pm2, hy])
        by_cases hdd : y = n - 1
        · have hne : ((y : Int) != (n : Int) - 1) = false := by simp; omega
          obtain ⟨hx1, hmin⟩ := min_ans HPR.out ((dvd_iff_last (by omega)).1 (by rw [hy, hdd])) hx
          have HM := hid hmin
          clear hmin hy
          go_wp2_with (go_at_call 64; refine (productModulo_later n _ [x, x] _ ⟨by omega, by omega⟩ (by intro f hf; simp at hf; omega) (litS wr [(x : Int), (x : Int)] (by simp) 2 rfl _ rfl).ints y HY.out).mono ?_; rintro e3 w3 ⟨rfl, rfl⟩)
          all_goals (
            go_ret2
            refine ⟨?_, HL.out.trans (Later.alloc _ _)⟩
            have HM2 := HM.out
            have e : ((Sq.minusN n : Nat) : Int) = (x : Int) ∨ ((Sq.minusN n : Nat) : Int) = (n : Int) - (x : Int) := by omega
            rw [HA.out]
            first
              | (show Ending.returned (.tuple #[.int .i64 (x : Int), .bool true]) = Ending.returned (.tuple #[.int .i64 ((Sq.minusN n : Nat) : Int), .bool true]); rw [show ((Sq.minusN n : Nat) : Int) = (x : Int) by omega])
              | (show Ending.returned (.tuple #[.int .i64 ((n : Int) - (x : Int)), .bool true]) = Ending.returned (.tuple #[.int .i64 ((Sq.minusN n : Nat) : Int), .bool true]); rw [show ((Sq.minusN n : Nat) : Int) = (n : Int) - (x : Int) by omega]))
        · have hne : ((y : Int) != (n : Int) - 1) = true := by simp; omega
          have HKB := hid (show k ≤ b from by
            refine Nat.not_lt.1 fun hh => hdd ?_
            rw [← hy]; exact (dvd_iff_last (by omega)).2 (HDV.out (by omega)))
          obtain ⟨z, hz⟩ : ∃ z, k ^ E % n = z := ⟨_, rfl⟩
          have hzn : z < n := by rw [← hz]; exact Nat.mod_lt _ (by omega)
          have HZ := hid (fun w => HPW.out k (by have := HKB.out; omega) w)
          rw [hz] at HZ
          have HD2 := hid (show k + 1 = b + 1 → n ∣ z * z + 1 from fun hh => by
            have h5 := HB4.out (by omega)
            rw [show b = k by omega, hz] at h5; exact h5)
          have hkb' := HKB.out
          clear hz hy
          go_wp2_with (first
            | (go_at_call 64; refine (productModulo_later n _ [x, x] _ ⟨by omega, by omega⟩ (by intro f hf; simp at hf; omega) (litS wr [(x : Int), (x : Int)] (by simp) 2 rfl _ rfl).ints y HY.out).mono ?_; rintro e3 w3 ⟨rfl, rfl⟩)
            | (go_at_call 65; refine (HZ.out _).mono ?_; rintro e4 w4 ⟨rfl, hL4⟩; have HL4 := hid hL4; clear hL4))
          go_roundw
          case rel => exact ⟨z, k + 1, rfl, by go_num, hzn, by omega, by omega, HD2.out, (HL.out.trans (Later.alloc _ _)).trans HL4.out⟩
          case measure => simp [intOf]; omega
end Go.Proofs.Ytofmmegpadojlaa
