/- The least prime number that refuses a sum of two squares; numbers refused by 8: in the model and in the program. -/
import Derived.Test.YtcgdegmhajfbaaaSqG
namespace Go.Proofs.Ytcgdegmhajfbaaa
open Go.RowKit

def stF : Nat → Nat → Nat → Bool → Nat × Bool
  | 0, _, n, o => (n, o)
  | f + 1, q, n, o => if n % q = 0 then stF f q (n / q) (!o) else (n, o)
def refF : Nat → Nat → Nat → Nat
  | 0, _, _ => 0
  | f + 1, p, n => if n ≤ 1 then 0 else
      if (stF n (if n < p * p then n else p) n false).2 = true ∧ (if n < p * p then n else p) % 4 = 3 then (if n < p * p then n else p)
      else refF f ((if n < p * p then n else p) + 1) (stF n (if n < p * p then n else p) n false).1
theorem stF_step {f q n : Nat} {o : Bool} (hn : 1 ≤ n) (hf : n ≤ f) : stF f q n o = if n % q = 0 then stF (f - 1) q (n / q) (!o) else (n, o) := by
  obtain ⟨g, rfl⟩ : ∃ g, f = g + 1 := ⟨f - 1, by omega⟩
  rfl
theorem stF_in {q : Nat} (hq : 2 ≤ q) : ∀ (f n : Nat) (o : Bool), 1 ≤ n → 1 ≤ (stF f q n o).1 ∧ (stF f q n o).1 ≤ n := by
  intro f
  induction f with
  | zero => intro n o h; exact ⟨h, Nat.le_refl _⟩
  | succ f ih =>
    intro n o h
    unfold stF
    split
    · rename_i hd
      have h1 : 1 ≤ n / q := Nat.div_pos (Nat.le_of_dvd (by omega) (Nat.dvd_of_mod_eq_zero hd)) (by omega)
      have h2 := ih (n / q) (!o) h1
      have h3 := Nat.div_le_self n q
      omega
    · exact ⟨h, Nat.le_refl _⟩
theorem stF_self {n : Nat} (hn : 2 ≤ n) : (stF n n n false).1 = 1 := by
  obtain ⟨g, rfl⟩ : ∃ g, n = g + 2 := ⟨n - 2, by omega⟩
  unfold stF
  rw [if_pos (Nat.mod_self _), Nat.div_self (by omega)]
  unfold stF
  rw [if_neg (by rw [Nat.mod_eq_of_lt (by omega)]; omega)]
theorem refF_one (f p : Nat) {n : Nat} (h : n ≤ 1) : refF f p n = 0 := by
  cases f with
  | zero => rfl
  | succ f => unfold refF; rw [if_pos h]
theorem refF_step {f p n : Nat} (hn : 2 ≤ n) (hf : 1 ≤ f) {q : Nat} (hq : q = if n < p * p then n else p) : refF f p n = if (stF n q n false).2 = true ∧ q % 4 = 3 then q else refF (f - 1) (q + 1) (stF n q n false).1 := by
  obtain ⟨g, rfl⟩ : ∃ g, f = g + 1 := ⟨f - 1, by omega⟩
  subst hq
  conv => lhs; unfold refF
  rw [if_neg (by omega)]; rfl
theorem ite_lt {P Q : Prop} [Decidable P] [Decidable Q] {a b : Nat} (hq : ¬ Q) (h : ¬ P → a < b) (hb : 0 < b) : (if P then 0 else a) < (if Q then 0 else b) := by
  rw [if_neg hq]; split
  · exact hb
  · rename_i hp; exact h hp
def refN (n : Nat) : Nat := refF (n + 3) 2 n
def refAns (n : Int) : Option Int := if 1 ≤ n ∧ n ≤ 1000000 ∧ refN n.toNat ≠ 0 then some (refN n.toNat : Nat) else none
set_option maxHeartbeats 2000000 in
theorem sqRefusing_any (N : Nat) (w : World) (hN1 : 1 ≤ N) (hN6 : N ≤ 1000000) :
    Calls Try.prog 36 #[.int .i64 N] w fun e w' => e = .returned (.int .i64 (refN N : Nat)) ∧ w = w' := by
  unfold refN
  obtain ⟨R, hR⟩ : ∃ R, refF (N + 3) 2 N = R := ⟨_, rfl⟩
  rw [hR]
  have HR := hid hR
  clear hR
  go_enter Try.func36, Try.ntmps36
  go_wp2_with fail
  go_loop [0, 3] (fun a c => ∃ n p g : Nat, a = .int .i64 n ∧ c = .int .i64 p ∧ 1 ≤ n ∧ n ≤ N ∧ 2 ≤ p ∧ p ≤ N + 1 ∧ (2 ≤ n → N + 3 ≤ g + p) ∧ refF g p n = R) (fun a c => if (intOf a).toNat ≤ 1 then 0 else N + 3 - (intOf c).toNat)
  case atStart => exact ⟨N, 2, N + 3, rfl, rfl, by omega, by omega, by omega, by omega, by omega, HR.out⟩
  case round =>
    obtain ⟨n, p, g, rfl, rfl, hn1, hnN, hp2, hpN, hg, hF⟩ := hrel
    have HF := hid hF
    clear hF
    by_cases hgt : (1 : Int) < (n : Int)
    · have hg' : N + 3 ≤ g + p := hg (by omega)
      clear hg
      have hpp : 0 ≤ (p : Int) * (p : Int) ∧ (p : Int) * (p : Int) ≤ 1000002000001 := by
        have := Nat.mul_le_mul (show p ≤ 1000001 by omega) (show p ≤ 1000001 by omega)
        rw [← Int.natCast_mul]; omega
      by_cases hlt : (n : Int) < (p : Int) * (p : Int)
      · have hlt' : n < p * p := by rw [← Int.natCast_mul] at hlt; omega
        obtain ⟨q, hq⟩ : ∃ q, q = n := ⟨_, rfl⟩
        have hz : ¬ (q : Int) = 0 := by omega
        obtain ⟨S, hS⟩ : ∃ S, stF n q n false = S := ⟨_, rfl⟩
        have HSTEP := hid (show (if S.2 = true ∧ q % 4 = 3 then q else refF (g - 1) (q + 1) S.1) = R by rw [← HF.out, refF_step (f := g) (p := p) (n := n) (by omega) (by omega) (q := q) (by rw [if_pos hlt', hq]), hS])
        have HMQ := hid (show ∀ m : Nat, S.1 = m → m ≤ 1 from fun m h => by rw [← h, ← hS, hq, stF_self (by omega)]; exact Nat.le_refl _)
        have HS0 := hid hS
        have HQ := hid hq
        have hqn : (n : Int) = (q : Int) := by rw [hq]
        have hq2 : 2 ≤ q := by omega
        have hqN : q ≤ N := by omega
        clear hS hlt' hq
        go_wp2_with fail
        go_loop [0, 4] (fun a o => ∃ (m f : Nat) (b : Bool), a = .int .i64 m ∧ o = .bool b ∧ 1 ≤ m ∧ m ≤ n ∧ m ≤ f ∧ stF f q m b = S) (fun a _ => (intOf a).toNat)
        case atStart => exact ⟨n, n, false, by first | rfl | (rw [hqn]; done) | (simp [hqn]; done), rfl, by omega, by omega, by omega, HS0.out⟩
        case round =>
          obtain ⟨m, f, b, rfl, rfl, hm1, hmn, hmf, hS⟩ := hrel
          have HS := hid hS
          clear hS
          obtain ⟨t, ht⟩ : ∃ t : Nat, m % q = t := ⟨_, rfl⟩
          have q1 := tmodN m q
          rw [ht] at q1
          obtain ⟨d, hd⟩ : ∃ d : Nat, m / q = d := ⟨_, rfl⟩
          have q2 := tdivN m q
          rw [hd] at q2
          have q3 : (m : Int) / (q : Int) = (d : Int) := by rw [← hd]; exact (Int.natCast_ediv m q).symm
          have hdm : d ≤ m := by rw [← hd]; exact Nat.div_le_self m q
          have HST := hid (show (if t = 0 then stF (f - 1) q d (!b) else (m, b)) = S by rw [← ht, ← hd, ← HS.out, stF_step hm1 hmf])
          by_cases h0 : t = 0
          · have ht0 : ((t : Int) == 0) = true := by simp [h0]
            have hdl : d < m := by rw [← hd]; exact Nat.div_lt_self (by omega) (by omega)
            have hd1 : 1 ≤ d := by rw [← hd]; exact Nat.div_pos (Nat.le_of_dvd (by omega) (Nat.dvd_of_mod_eq_zero (by rw [ht, h0]))) (by omega)
            have HR2 := hid (show stF (f - 1) q d (!b) = S by rw [← HST.out, if_pos h0])
            clear ht hd h0
            go_wp2_with fail
            go_round
            case rel => exact ⟨d, f - 1, !b, by first | rfl | (simp; done) | (simp [q3]; done) | (simp [q2]; done), rfl, by omega, by omega, by omega, HR2.out⟩
            case measure => simp [intOf]; omega
          · have ht0 : ((t : Int) == 0) = false := by simp [h0]
            have HR2 := hid (show (m, b) = S by rw [← HST.out, if_neg h0])
            clear ht hd
            have e1 : S.1 = m := by rw [← HR2.out]
            have e2 : S.2 = b := by rw [← HR2.out]
            have HE1 := hid e1
            have HE2 := hid e2
            clear e1 e2
            obtain ⟨t4, ht4⟩ : ∃ t4 : Nat, q % 4 = t4 := ⟨_, rfl⟩
            have q4 : (q : Int).tmod 4 = (t4 : Int) := by rw [← ht4]; exact tmodN q 4
            have q5 : (q : Int) % 4 = (t4 : Int) := by omega
            have HFS := hid (show (if b = true ∧ t4 = 3 then q else refF (g - 1) (q + 1) m) = R by rw [← HSTEP.out, HE1.out, HE2.out, ht4])
            clear ht4
            cases b
            · have HFN := hid (show refF (g - 1) (q + 1) m = R by rw [← HFS.out, if_neg (by simp)])
              go_wp2_with fail
              go_round
              case rel => exact ⟨m, q + 1, g - 1, rfl, by go_num, hm1, by omega, by omega, by omega, by have := HMQ.out m HE1.out; omega, HFN.out⟩
              case measure => have := HMQ.out m HE1.out; simp only [intOf]; exact ite_lt (by omega) (fun h => by omega) (by omega)
            · by_cases h3 : t4 = 3
              · have hd3 : ((t4 : Int) == 3) = true := by simp [h3]
                have HFN := hid (show q = R by rw [← HFS.out, if_pos ⟨rfl, h3⟩])
                go_wp2_with fail
                go_ret; exact ⟨by rw [← HFN.out]; rfl, rfl⟩
              · have hd3 : ((t4 : Int) == 3) = false := by simp; omega
                have HFN := hid (show refF (g - 1) (q + 1) m = R by rw [← HFS.out, if_neg (by simp [h3])])
                go_wp2_with fail
                go_round
                case rel => exact ⟨m, q + 1, g - 1, rfl, by go_num, hm1, by omega, by omega, by omega, by have := HMQ.out m HE1.out; omega, HFN.out⟩
                case measure => have := HMQ.out m HE1.out; simp only [intOf]; exact ite_lt (by omega) (fun h => by omega) (by omega)
      · have hlt' : ¬ n < p * p := by rw [← Int.natCast_mul] at hlt; omega
        obtain ⟨q, hq⟩ : ∃ q, q = p := ⟨_, rfl⟩
        have hz : ¬ (q : Int) = 0 := by omega
        obtain ⟨S, hS⟩ : ∃ S, stF n q n false = S := ⟨_, rfl⟩
        have hpn : p ≤ n := by have := Nat.mul_le_mul_right p (show 1 ≤ p by omega); omega
        have HSTEP := hid (show (if S.2 = true ∧ q % 4 = 3 then q else refF (g - 1) (q + 1) S.1) = R by rw [← HF.out, refF_step (f := g) (p := p) (n := n) (by omega) (by omega) (q := q) (by rw [if_neg hlt', hq]), hS])
        have HMQ := hid (show ∀ m : Nat, S.1 = m → True from fun m h => trivial)
        have HS0 := hid hS
        have hq2 : 2 ≤ q := by omega
        have hqN : q ≤ N := by omega
        clear hS hlt'
        subst hq
        go_wp2_with fail
        go_loop [0, 4] (fun a o => ∃ (m f : Nat) (b : Bool), a = .int .i64 m ∧ o = .bool b ∧ 1 ≤ m ∧ m ≤ n ∧ m ≤ f ∧ stF f q m b = S) (fun a _ => (intOf a).toNat)
        case atStart => exact ⟨n, n, false, by first | rfl | (rw [hqn]; done) | (simp [hqn]; done), rfl, by omega, by omega, by omega, HS0.out⟩
        case round =>
          obtain ⟨m, f, b, rfl, rfl, hm1, hmn, hmf, hS⟩ := hrel
          have HS := hid hS
          clear hS
          obtain ⟨t, ht⟩ : ∃ t : Nat, m % q = t := ⟨_, rfl⟩
          have q1 := tmodN m q
          rw [ht] at q1
          obtain ⟨d, hd⟩ : ∃ d : Nat, m / q = d := ⟨_, rfl⟩
          have q2 := tdivN m q
          rw [hd] at q2
          have q3 : (m : Int) / (q : Int) = (d : Int) := by rw [← hd]; exact (Int.natCast_ediv m q).symm
          have hdm : d ≤ m := by rw [← hd]; exact Nat.div_le_self m q
          have HST := hid (show (if t = 0 then stF (f - 1) q d (!b) else (m, b)) = S by rw [← ht, ← hd, ← HS.out, stF_step hm1 hmf])
          by_cases h0 : t = 0
          · have ht0 : ((t : Int) == 0) = true := by simp [h0]
            have hdl : d < m := by rw [← hd]; exact Nat.div_lt_self (by omega) (by omega)
            have hd1 : 1 ≤ d := by rw [← hd]; exact Nat.div_pos (Nat.le_of_dvd (by omega) (Nat.dvd_of_mod_eq_zero (by rw [ht, h0]))) (by omega)
            have HR2 := hid (show stF (f - 1) q d (!b) = S by rw [← HST.out, if_pos h0])
            clear ht hd h0
            go_wp2_with fail
            go_round
            case rel => exact ⟨d, f - 1, !b, by first | rfl | (simp; done) | (simp [q3]; done) | (simp [q2]; done), rfl, by omega, by omega, by omega, HR2.out⟩
            case measure => simp [intOf]; omega
          · have ht0 : ((t : Int) == 0) = false := by simp [h0]
            have HR2 := hid (show (m, b) = S by rw [← HST.out, if_neg h0])
            clear ht hd
            have e1 : S.1 = m := by rw [← HR2.out]
            have e2 : S.2 = b := by rw [← HR2.out]
            have HE1 := hid e1
            have HE2 := hid e2
            clear e1 e2
            obtain ⟨t4, ht4⟩ : ∃ t4 : Nat, q % 4 = t4 := ⟨_, rfl⟩
            have q4 : (q : Int).tmod 4 = (t4 : Int) := by rw [← ht4]; exact tmodN q 4
            have q5 : (q : Int) % 4 = (t4 : Int) := by omega
            have HFS := hid (show (if b = true ∧ t4 = 3 then q else refF (g - 1) (q + 1) m) = R by rw [← HSTEP.out, HE1.out, HE2.out, ht4])
            clear ht4
            cases b
            · have HFN := hid (show refF (g - 1) (q + 1) m = R by rw [← HFS.out, if_neg (by simp)])
              go_wp2_with fail
              go_round
              case rel => exact ⟨m, q + 1, g - 1, rfl, by go_num, hm1, by omega, by omega, by omega, by have := HMQ.out m HE1.out; omega, HFN.out⟩
              case measure => simp only [intOf]; exact ite_lt (by omega) (fun h => by omega) (by omega)
            · by_cases h3 : t4 = 3
              · have hd3 : ((t4 : Int) == 3) = true := by simp [h3]
                have HFN := hid (show q = R by rw [← HFS.out, if_pos ⟨rfl, h3⟩])
                go_wp2_with fail
                go_ret; exact ⟨by rw [← HFN.out]; rfl, rfl⟩
              · have hd3 : ((t4 : Int) == 3) = false := by simp; omega
                have HFN := hid (show refF (g - 1) (q + 1) m = R by rw [← HFS.out, if_neg (by simp [h3])])
                go_wp2_with fail
                go_round
                case rel => exact ⟨m, q + 1, g - 1, rfl, by go_num, hm1, by omega, by omega, by omega, by have := HMQ.out m HE1.out; omega, HFN.out⟩
                case measure => simp only [intOf]; exact ite_lt (by omega) (fun h => by omega) (by omega)
    · have HFN := hid (show R = 0 by rw [← HF.out]; exact refF_one _ _ (by omega))
      go_wp2_with fail
      go_ret; exact ⟨by rw [HFN.out]; rfl, rfl⟩
set_option maxHeartbeats 2000000 in
theorem implRefusing_in (N : Nat) (w : World) (hN1 : 1 ≤ N) (hN6 : N ≤ 1000000) :
    Calls Try.prog 15 #[.int .i64 N] w fun e w' => NumAns w (refAns N) e w' := by
  obtain ⟨R, hR⟩ : ∃ R, refF (N + 3) 2 N = R := ⟨_, rfl⟩
  have HA := hid (show refAns (N : Int) = if R ≠ 0 then some ((R : Nat) : Int) else none by
    unfold refAns refN
    rw [Int.toNat_natCast, hR]
    by_cases h : R = 0
    · rw [if_neg (by simp [h]), if_neg (by simp [h])]
    · rw [if_pos ⟨by omega, by omega, h⟩, if_pos h])
  have HR := hid hR
  have HB := hid (inB_true (lo := 1) (hi := 1000000) (n := (N : Int)) ⟨by omega, by omega⟩)
  clear hR
  go_enter Try.func15, Try.ntmps15
  go_wp2_with (go_at_call 37; refine (isSumOfSome_as _ _ _ _ HB.out).mono ?_; rintro e w2 ⟨rfl, rfl⟩)
  go_loop [0, 4] (fun a c => ∃ n p g : Nat, a = .int .i64 n ∧ c = .int .i64 p ∧ 1 ≤ n ∧ n ≤ N ∧ 2 ≤ p ∧ p ≤ N + 1 ∧ (2 ≤ n → N + 3 ≤ g + p) ∧ refF g p n = R) (fun a c => if (intOf a).toNat ≤ 1 then 0 else N + 3 - (intOf c).toNat)
  case atStart => exact ⟨N, 2, N + 3, rfl, rfl, by omega, by omega, by omega, by omega, by omega, HR.out⟩
  case round =>
    obtain ⟨n, p, g, rfl, rfl, hn1, hnN, hp2, hpN, hg, hF⟩ := hrel
    have HF := hid hF
    clear hF
    by_cases hgt : (1 : Int) < (n : Int)
    · have hg' : N + 3 ≤ g + p := hg (by omega)
      clear hg
      have hpp : 0 ≤ (p : Int) * (p : Int) ∧ (p : Int) * (p : Int) ≤ 1000002000001 := by
        have := Nat.mul_le_mul (show p ≤ 1000001 by omega) (show p ≤ 1000001 by omega)
        rw [← Int.natCast_mul]; omega
      by_cases hlt : (n : Int) < (p : Int) * (p : Int)
      · have hlt' : n < p * p := by rw [← Int.natCast_mul] at hlt; omega
        obtain ⟨q, hq⟩ : ∃ q, q = n := ⟨_, rfl⟩
        have hz : ¬ (q : Int) = 0 := by omega
        obtain ⟨S, hS⟩ : ∃ S, stF n q n false = S := ⟨_, rfl⟩
        have HSTEP := hid (show (if S.2 = true ∧ q % 4 = 3 then q else refF (g - 1) (q + 1) S.1) = R by rw [← HF.out, refF_step (f := g) (p := p) (n := n) (by omega) (by omega) (q := q) (by rw [if_pos hlt', hq]), hS])
        have HMQ := hid (show ∀ m : Nat, S.1 = m → m ≤ 1 from fun m h => by rw [← h, ← hS, hq, stF_self (by omega)]; exact Nat.le_refl _)
        have HS0 := hid hS
        have HQ := hid hq
        have hqn : (n : Int) = (q : Int) := by rw [hq]
        have hq2 : 2 ≤ q := by omega
        have hqN : q ≤ N := by omega
        clear hS hlt' hq
        go_wp2_with fail
        go_loop [0, 5] (fun a o => ∃ (m f : Nat) (b : Bool), a = .int .i64 m ∧ o = .bool b ∧ 1 ≤ m ∧ m ≤ n ∧ m ≤ f ∧ stF f q m b = S) (fun a _ => (intOf a).toNat)
        case atStart => exact ⟨n, n, false, by first | rfl | (rw [hqn]; done) | (simp [hqn]; done), rfl, by omega, by omega, by omega, HS0.out⟩
        case round =>
          obtain ⟨m, f, b, rfl, rfl, hm1, hmn, hmf, hS⟩ := hrel
          have HS := hid hS
          clear hS
          obtain ⟨t, ht⟩ : ∃ t : Nat, m % q = t := ⟨_, rfl⟩
          have q1 := tmodN m q
          rw [ht] at q1
          obtain ⟨d, hd⟩ : ∃ d : Nat, m / q = d := ⟨_, rfl⟩
          have q2 := tdivN m q
          rw [hd] at q2
          have q3 : (m : Int) / (q : Int) = (d : Int) := by rw [← hd]; exact (Int.natCast_ediv m q).symm
          have hdm : d ≤ m := by rw [← hd]; exact Nat.div_le_self m q
          have HST := hid (show (if t = 0 then stF (f - 1) q d (!b) else (m, b)) = S by rw [← ht, ← hd, ← HS.out, stF_step hm1 hmf])
          by_cases h0 : t = 0
          · have ht0 : ((t : Int) == 0) = true := by simp [h0]
            have hdl : d < m := by rw [← hd]; exact Nat.div_lt_self (by omega) (by omega)
            have hd1 : 1 ≤ d := by rw [← hd]; exact Nat.div_pos (Nat.le_of_dvd (by omega) (Nat.dvd_of_mod_eq_zero (by rw [ht, h0]))) (by omega)
            have HR2 := hid (show stF (f - 1) q d (!b) = S by rw [← HST.out, if_pos h0])
            clear ht hd h0
            go_wp2_with fail
            go_round
            case rel => exact ⟨d, f - 1, !b, by first | rfl | (simp; done) | (simp [q3]; done) | (simp [q2]; done), rfl, by omega, by omega, by omega, HR2.out⟩
            case measure => simp [intOf]; omega
          · have ht0 : ((t : Int) == 0) = false := by simp [h0]
            have HR2 := hid (show (m, b) = S by rw [← HST.out, if_neg h0])
            clear ht hd
            have e1 : S.1 = m := by rw [← HR2.out]
            have e2 : S.2 = b := by rw [← HR2.out]
            have HE1 := hid e1
            have HE2 := hid e2
            clear e1 e2
            obtain ⟨t4, ht4⟩ : ∃ t4 : Nat, q % 4 = t4 := ⟨_, rfl⟩
            have q4 : (q : Int).tmod 4 = (t4 : Int) := by rw [← ht4]; exact tmodN q 4
            have q5 : (q : Int) % 4 = (t4 : Int) := by omega
            have HFS := hid (show (if b = true ∧ t4 = 3 then q else refF (g - 1) (q + 1) m) = R by rw [← HSTEP.out, HE1.out, HE2.out, ht4])
            clear ht4
            cases b
            · have HFN := hid (show refF (g - 1) (q + 1) m = R by rw [← HFS.out, if_neg (by simp)])
              go_wp2_with fail
              go_round
              case rel => exact ⟨m, q + 1, g - 1, rfl, by go_num, hm1, by omega, by omega, by omega, by have := HMQ.out m HE1.out; omega, HFN.out⟩
              case measure => have := HMQ.out m HE1.out; simp only [intOf]; exact ite_lt (by omega) (fun h => by omega) (by omega)
            · by_cases h3 : t4 = 3
              · have hd3 : ((t4 : Int) == 3) = true := by simp [h3]
                have HFN := hid (show q = R by rw [← HFS.out, if_pos ⟨rfl, h3⟩])
                go_wp2_with fail
                go_ret2; exact ⟨by rw [HA.out, ← HFN.out, if_pos (by omega)]; rfl, Later.refl _⟩
              · have hd3 : ((t4 : Int) == 3) = false := by simp; omega
                have HFN := hid (show refF (g - 1) (q + 1) m = R by rw [← HFS.out, if_neg (by simp [h3])])
                go_wp2_with fail
                go_round
                case rel => exact ⟨m, q + 1, g - 1, rfl, by go_num, hm1, by omega, by omega, by omega, by have := HMQ.out m HE1.out; omega, HFN.out⟩
                case measure => have := HMQ.out m HE1.out; simp only [intOf]; exact ite_lt (by omega) (fun h => by omega) (by omega)
      · have hlt' : ¬ n < p * p := by rw [← Int.natCast_mul] at hlt; omega
        obtain ⟨q, hq⟩ : ∃ q, q = p := ⟨_, rfl⟩
        have hz : ¬ (q : Int) = 0 := by omega
        obtain ⟨S, hS⟩ : ∃ S, stF n q n false = S := ⟨_, rfl⟩
        have hpn : p ≤ n := by have := Nat.mul_le_mul_right p (show 1 ≤ p by omega); omega
        have HSTEP := hid (show (if S.2 = true ∧ q % 4 = 3 then q else refF (g - 1) (q + 1) S.1) = R by rw [← HF.out, refF_step (f := g) (p := p) (n := n) (by omega) (by omega) (q := q) (by rw [if_neg hlt', hq]), hS])
        have HMQ := hid (show ∀ m : Nat, S.1 = m → True from fun m h => trivial)
        have HS0 := hid hS
        have hq2 : 2 ≤ q := by omega
        have hqN : q ≤ N := by omega
        clear hS hlt'
        subst hq
        go_wp2_with fail
        go_loop [0, 5] (fun a o => ∃ (m f : Nat) (b : Bool), a = .int .i64 m ∧ o = .bool b ∧ 1 ≤ m ∧ m ≤ n ∧ m ≤ f ∧ stF f q m b = S) (fun a _ => (intOf a).toNat)
        case atStart => exact ⟨n, n, false, by first | rfl | (rw [hqn]; done) | (simp [hqn]; done), rfl, by omega, by omega, by omega, HS0.out⟩
        case round =>
          obtain ⟨m, f, b, rfl, rfl, hm1, hmn, hmf, hS⟩ := hrel
          have HS := hid hS
          clear hS
          obtain ⟨t, ht⟩ : ∃ t : Nat, m % q = t := ⟨_, rfl⟩
          have q1 := tmodN m q
          rw [ht] at q1
          obtain ⟨d, hd⟩ : ∃ d : Nat, m / q = d := ⟨_, rfl⟩
          have q2 := tdivN m q
          rw [hd] at q2
          have q3 : (m : Int) / (q : Int) = (d : Int) := by rw [← hd]; exact (Int.natCast_ediv m q).symm
          have hdm : d ≤ m := by rw [← hd]; exact Nat.div_le_self m q
          have HST := hid (show (if t = 0 then stF (f - 1) q d (!b) else (m, b)) = S by rw [← ht, ← hd, ← HS.out, stF_step hm1 hmf])
          by_cases h0 : t = 0
          · have ht0 : ((t : Int) == 0) = true := by simp [h0]
            have hdl : d < m := by rw [← hd]; exact Nat.div_lt_self (by omega) (by omega)
            have hd1 : 1 ≤ d := by rw [← hd]; exact Nat.div_pos (Nat.le_of_dvd (by omega) (Nat.dvd_of_mod_eq_zero (by rw [ht, h0]))) (by omega)
            have HR2 := hid (show stF (f - 1) q d (!b) = S by rw [← HST.out, if_pos h0])
            clear ht hd h0
            go_wp2_with fail
            go_round
            case rel => exact ⟨d, f - 1, !b, by first | rfl | (simp; done) | (simp [q3]; done) | (simp [q2]; done), rfl, by omega, by omega, by omega, HR2.out⟩
            case measure => simp [intOf]; omega
          · have ht0 : ((t : Int) == 0) = false := by simp [h0]
            have HR2 := hid (show (m, b) = S by rw [← HST.out, if_neg h0])
            clear ht hd
            have e1 : S.1 = m := by rw [← HR2.out]
            have e2 : S.2 = b := by rw [← HR2.out]
            have HE1 := hid e1
            have HE2 := hid e2
            clear e1 e2
            obtain ⟨t4, ht4⟩ : ∃ t4 : Nat, q % 4 = t4 := ⟨_, rfl⟩
            have q4 : (q : Int).tmod 4 = (t4 : Int) := by rw [← ht4]; exact tmodN q 4
            have q5 : (q : Int) % 4 = (t4 : Int) := by omega
            have HFS := hid (show (if b = true ∧ t4 = 3 then q else refF (g - 1) (q + 1) m) = R by rw [← HSTEP.out, HE1.out, HE2.out, ht4])
            clear ht4
            cases b
            · have HFN := hid (show refF (g - 1) (q + 1) m = R by rw [← HFS.out, if_neg (by simp)])
              go_wp2_with fail
              go_round
              case rel => exact ⟨m, q + 1, g - 1, rfl, by go_num, hm1, by omega, by omega, by omega, by have := HMQ.out m HE1.out; omega, HFN.out⟩
              case measure => simp only [intOf]; exact ite_lt (by omega) (fun h => by omega) (by omega)
            · by_cases h3 : t4 = 3
              · have hd3 : ((t4 : Int) == 3) = true := by simp [h3]
                have HFN := hid (show q = R by rw [← HFS.out, if_pos ⟨rfl, h3⟩])
                go_wp2_with fail
                go_ret2; exact ⟨by rw [HA.out, ← HFN.out, if_pos (by omega)]; rfl, Later.refl _⟩
              · have hd3 : ((t4 : Int) == 3) = false := by simp; omega
                have HFN := hid (show refF (g - 1) (q + 1) m = R by rw [← HFS.out, if_neg (by simp [h3])])
                go_wp2_with fail
                go_round
                case rel => exact ⟨m, q + 1, g - 1, rfl, by go_num, hm1, by omega, by omega, by omega, by have := HMQ.out m HE1.out; omega, HFN.out⟩
                case measure => simp only [intOf]; exact ite_lt (by omega) (fun h => by omega) (by omega)
    · have HFN := hid (show R = 0 by rw [← HF.out]; exact refF_one _ _ (by omega))
      go_wp2_with fail
      go_ret2; exact ⟨by rw [HA.out, HFN.out]; rfl, Later.refl _⟩
theorem implRefusingPrime_any (n : Int) (w : World) : Calls Try.prog 15 #[.int .i64 n] w fun e w' => NumAns w (refAns n) e w' := by
  by_cases h : 1 ≤ n ∧ n ≤ 1000000
  · obtain ⟨m, rfl⟩ : ∃ m : Nat, n = (m : Int) := ⟨n.toNat, by omega⟩
    exact implRefusing_in m w (by omega) (by omega)
  · have HA := hid (show refAns n = none from if_neg (fun k => h ⟨k.1, k.2.1⟩))
    have HB := hid (inB_false h)
    clear h
    go_enter Try.func15, Try.ntmps15
    go_wp2_with (go_at_call 37; refine (isSumOfSome_as _ _ _ _ HB.out).mono ?_; rintro e w2 ⟨rfl, rfl⟩)
    go_ret2
    exact ⟨by rw [HA.out]; rfl, Later.refl _⟩
set_option maxHeartbeats 1000000 in
theorem specRefusingPrime_any (n : Int) (w : World) : Calls Try.prog 14 #[.int .i64 n] w fun e w' => NumAns w (refAns n) e w' := by
  by_cases h : 1 ≤ n ∧ n ≤ 1000000
  · obtain ⟨m, rfl⟩ : ∃ m : Nat, n = (m : Int) := ⟨n.toNat, by omega⟩
    have HB := hid (inB_true h)
    have HS := hid (fun w => sqRefusing_any m w (by omega) (by omega))
    obtain ⟨R, hR⟩ : ∃ R, refN m = R := ⟨_, rfl⟩
    rw [hR] at HS
    have HA := hid (show refAns (m : Int) = if R ≠ 0 then some ((R : Nat) : Int) else none by
      unfold refAns
      rw [Int.toNat_natCast, hR]
      by_cases h : R = 0
      · rw [if_neg (by simp [h]), if_neg (by simp [h])]
      · rw [if_pos ⟨by omega, by omega, h⟩, if_pos h])
    clear hR h
    by_cases h0 : R = 0
    · have hd : ((R : Int) == 0) = true := by simp [h0]
      go_enter Try.func14, Try.ntmps14
      go_wp2_with (first | (go_at_call 35; refine (l1In_b _ _ _ _ _ HB.out).mono ?_; rintro e w2 ⟨rfl, rfl⟩) | (go_at_call 36; refine (HS.out _).mono ?_; rintro e w2 ⟨rfl, rfl⟩))
      go_ret2
      exact ⟨by rw [HA.out, h0]; rfl, Later.refl _⟩
    · have hd : ((R : Int) == 0) = false := by simp [h0]
      go_enter Try.func14, Try.ntmps14
      go_wp2_with (first | (go_at_call 35; refine (l1In_b _ _ _ _ _ HB.out).mono ?_; rintro e w2 ⟨rfl, rfl⟩) | (go_at_call 36; refine (HS.out _).mono ?_; rintro e w2 ⟨rfl, rfl⟩))
      go_ret2
      exact ⟨by rw [HA.out, if_pos h0]; rfl, Later.refl _⟩
  · have HA := hid (show refAns n = none from if_neg (fun k => h ⟨k.1, k.2.1⟩))
    have HB := hid (inB_false h)
    clear h
    go_enter Try.func14, Try.ntmps14
    go_wp2_with (go_at_call 35; refine (l1In_b _ _ _ _ _ HB.out).mono ?_; rintro e w2 ⟨rfl, rfl⟩)
    go_ret2
    exact ⟨by rw [HA.out]; rfl, Later.refl _⟩
end Go.Proofs.Ytcgdegmhajfbaaa
