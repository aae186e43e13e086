/- SqE, SqF, SqG: in one text. -/
import Derived.Test.YtofmmegpadojlaaSqD
import Derived.Test.YtofmmegpadojlaaMkSR
import Derived.Deep.RegionHeld3
namespace Go.Proofs.Ytofmmegpadojlaa
open Go.RowKit


theorem tmodN (m k : Nat) : (m : Int).tmod (k : Int) = ((m % k : Nat) : Int) := by
  rw [Int.tmod_eq_emod_of_nonneg (by omega)]; exact (Int.natCast_emod m k).symm
theorem tdivN (m k : Nat) : (m : Int).tdiv (k : Int) = ((m / k : Nat) : Int) := by
  rw [Int.tdiv_eq_ediv_of_nonneg (by omega)]; exact (Int.natCast_ediv m k).symm
theorem sq_in {k m : Nat} (h : k * k ≤ m) (hm : m ≤ 1000000) : k ≤ 1000 := by
  refine Nat.not_lt.1 fun hk => ?_
  have := Nat.mul_le_mul (show 1001 ≤ k from hk) (show 1001 ≤ k from hk)
  omega
def primI (n : Int) : Bool := Sq.primB n.toNat
theorem primI_small {n : Int} (h : n < 2) : primI n = false := Sq.primB_small (by omega)

set_option maxHeartbeats 1000000 in
theorem sqIsPrime_any (n : Int) (w : World) (hn : n ≤ 1000000) :
    Calls Try.prog 110 #[.int .i64 n] w fun e w' => e = .returned (.bool (primI n)) ∧ w = w' := by
  by_cases h2 : n < 2
  · have HP := hid (primI_small h2)
    have h3 : ¬ (4 : Int) ≤ n := by omega
    have h4 : ¬ (2 : Int) ≤ n := by omega
    go_enter Try.func110, Try.ntmps110
    go_wp2_with fail
    go_loop [3] (fun d => d = .int .i64 2) (fun d => 0)
    case atStart => rfl
    case round =>
      subst hrel
      go_wp2_with fail
      go_ret
      exact ⟨ret_bool (by rw [HP.out]; simp; omega), rfl⟩
  · obtain ⟨m, rfl⟩ : ∃ m : Nat, n = (m : Int) := ⟨n.toNat, by omega⟩
    have hm2 : (2 : Int) ≤ (m : Int) := by omega
    obtain ⟨P, hP⟩ : ∃ P, primI (m : Int) = P := ⟨_, rfl⟩
    have HP := hid (show Sq.primB m = P from hP)
    rw [hP]
    clear hP h2
    go_enter Try.func110, Try.ntmps110
    go_wp2_with fail
    go_loop [3] (fun d => ∃ k : Nat, d = .int .i64 k ∧ 2 ≤ k ∧ k ≤ 1001 ∧ ∀ e, 2 ≤ e → e < k → m % e ≠ 0) (fun d => 1002 - (intOf d).toNat)
    case atStart => exact ⟨2, rfl, by omega, by omega, fun e h1 h2 => by omega⟩
    case round =>
      obtain ⟨k, rfl, hk2, hk1, hne⟩ := hrel
      have HN := hid hne
      clear hne
      have hz : ¬ (k : Int) = 0 := by omega
      have hkk : 0 ≤ (k : Int) * (k : Int) ∧ (k : Int) * (k : Int) ≤ 1002001 := by
        have := Nat.mul_le_mul hk1 hk1
        rw [← Int.natCast_mul]; omega
      by_cases hle : (k : Int) * (k : Int) ≤ (m : Int)
      · have HL := hid (show k * k ≤ m by rw [← Int.natCast_mul] at hle; omega)
        have hk0 : k ≤ 1000 := sq_in HL.out (by omega)
        obtain ⟨r, hr⟩ : ∃ r : Nat, m % k = r := ⟨_, rfl⟩
        have q1 := tmodN m k
        rw [hr] at q1
        have hrk : r < k := by rw [← hr]; exact Nat.mod_lt _ (by omega)
        have HR := hid hr
        clear hr
        by_cases h0 : r = 0
        · have hd : (r == 0) = true := by simp [h0]
          have hd2 : ((r : Int) == 0) = true := by simp [h0]
          have HF := hid (show false = P by rw [← HP.out, Sq.primB_no hk2 HL.out (by rw [HR.out, h0])])
          clear h0
          go_wp2_with fail
          go_ret
          exact ⟨ret_bool HF.out, rfl⟩
        · have hd : (r == 0) = false := by simp [h0]
          have hd2 : ((r : Int) == 0) = false := by simp [h0]
          go_wp2_with fail
          go_round
          case rel => exact ⟨k + 1, rfl, by omega, by omega, fun e h1 h2 => by
            by_cases he : e = k
            · rw [he, HR.out]; exact h0
            · exact HN.out e h1 (by omega)⟩
          case measure => simp [intOf]; omega
      · have HF := hid (show true = P by rw [← HP.out, Sq.primB_yes (by omega) k (by rw [← Int.natCast_mul] at hle; omega) HN.out])
        go_wp2_with fail
        go_ret
        exact ⟨ret_bool (by rw [← HF.out]), rfl⟩
set_option maxHeartbeats 1000000 in
theorem sqPrime_any (n : Int) (w : World) (hn : n ≤ 1000000) :
    Calls Try.prog 69 #[.int .i64 n] w fun e w' => e = .returned (.bool (primI n)) ∧ w = w' := by
  by_cases h2 : n < 2
  · have HP := hid (primI_small h2)
    have h3 : ¬ (4 : Int) ≤ n := by omega
    have h4 : ¬ (1 : Int) < n := by omega
    go_enter Try.func69, Try.ntmps69
    go_wp2_with fail
    go_loop [3] (fun d => d = .int .i64 2) (fun d => 0)
    case atStart => rfl
    case round =>
      subst hrel
      go_wp2_with fail
      go_ret
      exact ⟨ret_bool (by rw [HP.out]; simp; omega), rfl⟩
  · obtain ⟨m, rfl⟩ : ∃ m : Nat, n = (m : Int) := ⟨n.toNat, by omega⟩
    have hm2 : (1 : Int) < (m : Int) := by omega
    obtain ⟨P, hP⟩ : ∃ P, primI (m : Int) = P := ⟨_, rfl⟩
    have HP := hid (show Sq.primB m = P from hP)
    rw [hP]
    clear hP h2
    go_enter Try.func69, Try.ntmps69
    go_wp2_with fail
    go_loop [3] (fun d => ∃ k : Nat, d = .int .i64 k ∧ 2 ≤ k ∧ k ≤ 1001 ∧ ∀ e, 2 ≤ e → e < k → m % e ≠ 0) (fun d => 1002 - (intOf d).toNat)
    case atStart => exact ⟨2, rfl, by omega, by omega, fun e h1 h2 => by omega⟩
    case round =>
      obtain ⟨k, rfl, hk2, hk1, hne⟩ := hrel
      have HN := hid hne
      clear hne
      have hz : ¬ (k : Int) = 0 := by omega
      have hkk : 0 ≤ (k : Int) * (k : Int) ∧ (k : Int) * (k : Int) ≤ 1002001 := by
        have := Nat.mul_le_mul hk1 hk1
        rw [← Int.natCast_mul]; omega
      by_cases hle : (k : Int) * (k : Int) ≤ (m : Int)
      · have HL := hid (show k * k ≤ m by rw [← Int.natCast_mul] at hle; omega)
        have hk0 : k ≤ 1000 := sq_in HL.out (by omega)
        obtain ⟨r, hr⟩ : ∃ r : Nat, m % k = r := ⟨_, rfl⟩
        have q1 := tmodN m k
        rw [hr] at q1
        have hrk : r < k := by rw [← hr]; exact Nat.mod_lt _ (by omega)
        have HR := hid hr
        clear hr
        by_cases h0 : r = 0
        · have hd : (r == 0) = true := by simp [h0]
          have hd2 : ((r : Int) == 0) = true := by simp [h0]
          have HF := hid (show false = P by rw [← HP.out, Sq.primB_no hk2 HL.out (by rw [HR.out, h0])])
          clear h0
          go_wp2_with fail
          go_ret
          exact ⟨ret_bool HF.out, rfl⟩
        · have hd : (r == 0) = false := by simp [h0]
          have hd2 : ((r : Int) == 0) = false := by simp [h0]
          go_wp2_with fail
          go_round
          case rel => exact ⟨k + 1, rfl, by omega, by omega, fun e h1 h2 => by
            by_cases he : e = k
            · rw [he, HR.out]; exact h0
            · exact HN.out e h1 (by omega)⟩
          case measure => simp [intOf]; omega
      · have HF := hid (show true = P by rw [← HP.out, Sq.primB_yes (by omega) k (by rw [← Int.natCast_mul] at hle; omega) HN.out])
        go_wp2_with fail
        go_ret
        exact ⟨ret_bool (by rw [← HF.out]), rfl⟩


def inB (lo hi n : Int) : Bool := decide (lo ≤ n ∧ n ≤ hi)
theorem inB_true {lo hi n : Int} (h : lo ≤ n ∧ n ≤ hi) : inB lo hi n = true := decide_eq_true h
theorem inB_false {lo hi n : Int} (h : ¬ (lo ≤ n ∧ n ≤ hi)) : inB lo hi n = false := decide_eq_false h
def primUp (p m : Int) : Bool := decide (p ≤ m) && primI p
set_option maxHeartbeats 1000000 in
theorem isSum_any (n m : Int) (w : World) :
    Calls Try.prog 67 #[.int .i64 n, .int .i64 m] w fun e w' => e = .returned (.bool (inB 0 m n)) ∧ w = w' := by
  by_cases h0 : 0 ≤ n
  · by_cases h1 : n ≤ m
    · have HB := hid (inB_true (lo := 0) (hi := m) (n := n) ⟨h0, h1⟩)
      go_enter Try.func67, Try.ntmps67
      go_wp2_with fail
      go_ret
      exact ⟨ret_bool (by first | (rw [HB.out]; done) | (rw [HB.out]; simp; done) | (rw [HB.out]; simp; omega)), rfl⟩
    · have HB := hid (inB_false (lo := 0) (hi := m) (n := n) (by omega))
      go_enter Try.func67, Try.ntmps67
      go_wp2_with fail
      go_ret
      exact ⟨ret_bool (by first | (rw [HB.out]; done) | (rw [HB.out]; simp; done) | (rw [HB.out]; simp; omega)), rfl⟩
  · have HB := hid (inB_false (lo := 0) (hi := m) (n := n) (by omega))
    have hd : decide ((0 : Int) ≤ n) = false := decide_eq_false h0
    go_enter Try.func67, Try.ntmps67
    go_wp2_with fail
    go_ret
    exact ⟨ret_bool (by first | (rw [HB.out]; done) | (rw [HB.out]; simp; done) | (rw [HB.out]; simp; omega)), rfl⟩
theorem isSum_as (n m : Int) (b : Bool) (w : World) (h : inB 0 m n = b) : Calls Try.prog 67 #[.int .i64 n, .int .i64 m] w fun e w' => e = .returned (.bool b) ∧ w = w' := by
  subst h; exact isSum_any n m w
set_option maxHeartbeats 1000000 in
theorem isSumOfSome_any (n m : Int) (w : World) :
    Calls Try.prog 84 #[.int .i64 n, .int .i64 m] w fun e w' => e = .returned (.bool (inB 1 m n)) ∧ w = w' := by
  by_cases h0 : 1 ≤ n
  · have HB := hid (show inB 0 m n = inB 1 m n by
      by_cases h : n ≤ m
      · rw [inB_true ⟨by omega, h⟩, inB_true ⟨by omega, h⟩]
      · rw [inB_false (by omega), inB_false (by omega)])
    go_enter Try.func84, Try.ntmps84
    go_wp2_with (go_at_call 67; refine (isSum_as n m _ _ HB.out).mono ?_; rintro e w2 ⟨rfl, rfl⟩)
    go_ret
    exact ⟨ret_bool (by first | rfl | (simp; done) | (simp; omega)), rfl⟩
  · have HB := hid (inB_false (lo := 1) (hi := m) (n := n) (by omega))
    have hd : decide ((1 : Int) ≤ n) = false := decide_eq_false h0
    go_enter Try.func84, Try.ntmps84
    go_wp2_with fail
    go_ret
    exact ⟨ret_bool (by first | (rw [HB.out]; done) | (rw [HB.out]; simp; done) | (rw [HB.out]; simp; omega)), rfl⟩
theorem isSumOfSome_as (n m : Int) (b : Bool) (w : World) (h : inB 1 m n = b) : Calls Try.prog 84 #[.int .i64 n, .int .i64 m] w fun e w' => e = .returned (.bool b) ∧ w = w' := by
  subst h; exact isSumOfSome_any n m w
set_option maxHeartbeats 1000000 in
theorem isPrimeUpTo_any (p m : Int) (w : World) (hm : m ≤ 1000000) :
    Calls Try.prog 63 #[.int .i64 p, .int .i64 m] w fun e w' => e = .returned (.bool (primUp p m)) ∧ w = w' := by
  by_cases h0 : p ≤ m
  · have HB := hid (show primI p = primUp p m by unfold primUp; rw [decide_eq_true h0]; rfl)
    go_enter Try.func63, Try.ntmps63
    go_wp2_with (go_at_call 110; refine (sqIsPrime_any p _ (by omega)).mono ?_; rintro e w2 ⟨rfl, rfl⟩)
    go_ret
    exact ⟨ret_bool (by rw [← HB.out]), rfl⟩
  · have HB := hid (show primUp p m = false by unfold primUp; rw [decide_eq_false h0]; rfl)
    have hd : decide (p ≤ m) = false := decide_eq_false h0
    go_enter Try.func63, Try.ntmps63
    go_wp2_with fail
    go_ret
    exact ⟨ret_bool (by rw [HB.out]), rfl⟩
theorem isPrimeUpTo_as (p m : Int) (b : Bool) (w : World) (hm : m ≤ 1000000) (h : primUp p m = b) : Calls Try.prog 63 #[.int .i64 p, .int .i64 m] w fun e w' => e = .returned (.bool b) ∧ w = w' := by
  subst h; exact isPrimeUpTo_any p m w hm
theorem l1In_b (n lo hi : Int) (w : World) (b : Bool) (h : inB lo hi n = b) : Calls Try.prog 85 #[.int .i64 n, .int .i64 lo, .int .i64 hi] w fun e w' => e = .returned (.bool b) ∧ w = w' := by
  refine l1In_as _ _ _ _ _ ?_
  rw [← h]; unfold within inB
  rw [Bool.eq_iff_iff]; simp
theorem sqNumber_any (n : Int) (w : World) : Calls Try.prog 68 #[.int .i64 n] w fun e w' => e = .returned (.bool (inB 0 1000000 n)) ∧ w = w' := by
  go_enter Try.func68, Try.ntmps68
  go_wp2_with (go_at_call 85; refine (l1In_b n 0 1000000 _ _ rfl).mono ?_; rintro e w2 ⟨rfl, rfl⟩)
  go_ret
  exact ⟨rfl, rfl⟩
theorem sqNumber_as (n : Int) (b : Bool) (w : World) (h : inB 0 1000000 n = b) : Calls Try.prog 68 #[.int .i64 n] w fun e w' => e = .returned (.bool b) ∧ w = w' := by
  subst h; exact sqNumber_any n w
set_option maxHeartbeats 1000000 in
theorem sqGiven_any (p m : Int) (w : World) (hm : m ≤ 1000000) : Calls Try.prog 59 #[.int .i64 p, .int .i64 m] w fun e w' => e = .returned (.bool (primUp p m)) ∧ w = w' := by
  by_cases h : 2 ≤ p ∧ p ≤ m
  · have HB := hid (inB_true h)
    have HP := hid (show primI p = primUp p m by unfold primUp; rw [decide_eq_true h.2]; rfl)
    go_enter Try.func59, Try.ntmps59
    go_wp2_with (first | (go_at_call 85; refine (l1In_b p 2 m _ _ HB.out).mono ?_; rintro e w2 ⟨rfl, rfl⟩) | (go_at_call 69; refine (sqPrime_any p _ (by omega)).mono ?_; rintro e w2 ⟨rfl, rfl⟩))
    go_ret
    exact ⟨ret_bool (by rw [← HP.out]), rfl⟩
  · have HB := hid (inB_false h)
    have HP := hid (show primUp p m = false by
      unfold primUp
      by_cases h2 : p ≤ m
      · rw [primI_small (by omega)]; simp
      · rw [decide_eq_false h2]; rfl)
    go_enter Try.func59, Try.ntmps59
    go_wp2_with (go_at_call 85; refine (l1In_b p 2 m _ _ HB.out).mono ?_; rintro e w2 ⟨rfl, rfl⟩)
    go_ret
    exact ⟨ret_bool (by rw [HP.out]), rfl⟩
theorem sqGiven_as (p m : Int) (b : Bool) (w : World) (hm : m ≤ 1000000) (h : primUp p m = b) : Calls Try.prog 59 #[.int .i64 p, .int .i64 m] w fun e w' => e = .returned (.bool b) ∧ w = w' := by
  subst h; exact sqGiven_any p m w hm

def primAns (n : Int) : Option Bool := if 0 ≤ n ∧ n ≤ 1000000 then some (primI n) else none
set_option maxHeartbeats 1000000 in
theorem specIsPrimeNumber_any (n : Int) (w : World) : Calls Try.prog 16 #[.int .i64 n] w fun e w' => BoolAns w (primAns n) e w' := by
  by_cases h : 0 ≤ n ∧ n ≤ 1000000
  · have HA := hid (show primAns n = some (primI n) from if_pos h)
    have HB := hid (inB_true h)
    go_enter Try.func16, Try.ntmps16
    go_wp2_with (first | (go_at_call 68; refine (sqNumber_as n _ _ HB.out).mono ?_; rintro e w2 ⟨rfl, rfl⟩) | (go_at_call 69; refine (sqPrime_any n _ h.2).mono ?_; rintro e w2 ⟨rfl, rfl⟩))
    go_ret2
    exact ⟨by rw [HA.out]; rfl, Later.refl _⟩
  · have HA := hid (show primAns n = none from if_neg h)
    have HB := hid (inB_false h)
    clear h
    go_enter Try.func16, Try.ntmps16
    go_wp2_with (go_at_call 68; refine (sqNumber_as n _ _ HB.out).mono ?_; rintro e w2 ⟨rfl, rfl⟩)
    go_ret2
    exact ⟨by rw [HA.out]; rfl, Later.refl _⟩
set_option maxHeartbeats 1000000 in
theorem implIsPrimeNumber_any (n : Int) (w : World) : Calls Try.prog 15 #[.int .i64 n] w fun e w' => BoolAns w (primAns n) e w' := by
  have HA := hid (show primAns n = if inB 0 1000000 n = true then some (primUp n 1000000) else none by
    unfold primAns primUp
    by_cases h : 0 ≤ n ∧ n ≤ 1000000
    · rw [if_pos h, if_pos (inB_true h), decide_eq_true h.2]; rfl
    · rw [if_neg h, if_neg (by rw [inB_false h]; simp)])
  have HP := hid (show inB 0 1000000 n = false → primUp n 1000000 = false from fun hb => by
    have h : ¬ (0 ≤ n ∧ n ≤ 1000000) := of_decide_eq_false hb
    unfold primUp
    by_cases h2 : n ≤ 1000000
    · rw [primI_small (by omega)]; simp
    · rw [decide_eq_false h2]; rfl)
  go_enter Try.func15, Try.ntmps15
  go_wp2_with (first | (go_at_call 63; refine (isPrimeUpTo_any n 1000000 _ (by omega)).mono ?_; rintro e w2 ⟨rfl, rfl⟩) | (go_at_call 67; refine (isSum_any n 1000000 _).mono ?_; rintro e w2 ⟨rfl, rfl⟩))
  go_ret2
  refine ⟨?_, Later.refl _⟩
  rw [HA.out]
  have h2 := HP.out
  cases hb : inB 0 1000000 n
  · rw [h2 hb]; rfl
  · rfl


theorem litS (w : World) (zs : List Int) (hl : zs.length ≤ 1000) (n : Nat) (hn : n = zs.length) (cs : Array Value) (hc : cs = (zs.map (Value.int .i64)).toArray) : OwnInts w.heap.size (w.alloc (.cells cs 3)).heap.size (w.alloc (.cells cs 3)) (.slice (some ⟨w.heap.size, 0, none⟩) n n) zs := by
  subst hn hc
  have h := World.ownsRow_lit (e := 3) (size := 1) w (zs.map (Value.int .i64)).toArray zs.length (Nat.le_refl _) (by unfold maxLen; omega) (by simp)
  refine ⟨by simpa using h, fun b hb => by simp [Value.ownBlock] at hb ⊢; omega⟩
theorem remT_eq (u m : Int) (hm : 1 ≤ m) : remT u m = u % m := by
  have h1 := tmod_in u m hm
  unfold remT
  rw [Int.tmod_eq_emod_of_nonneg (by omega), Int.add_emod_right]
  have h2 := Int.mul_tdiv_add_tmod u m
  conv => rhs; rw [← h2]
  rw [Int.add_comm, Int.add_mul_emod_self_left]
theorem remT_nat (a m : Nat) (hm : 1 ≤ m) : remT (a : Int) (m : Int) = ((a % m : Nat) : Int) := by
  rw [remT_eq _ _ (by omega)]; exact (Int.natCast_emod a m).symm

/-! ### the model -/
def rootQ (p r : Nat) : Bool := (r * r + 1) % p == 0
theorem first_step (P : Nat → Bool) {k p : Nat} (h : k < p) : Sq.firstI P (p - k) k = if P k then some k else Sq.firstI P (p - (k + 1)) (k + 1) := by
  rw [show p - k = (p - (k + 1)) + 1 by omega]; rfl
theorem minusN_def (p : Nat) : Sq.minusN p = (Sq.firstI (rootQ p) (p - 1) 1).getD 0 := rfl
set_option maxHeartbeats 1000000 in
theorem sqMinus_any (p : Nat) (w : World) (hp : 1 ≤ p ∧ p ≤ 1000000) :
    Calls Try.prog 60 #[.int .i64 p] w fun e w' => e = .returned (.int .i64 (Sq.minusN p : Nat)) ∧ w = w' := by
  obtain ⟨hp1, hp2⟩ := hp
  rw [minusN_def]
  obtain ⟨R, hR⟩ : ∃ R, Sq.firstI (rootQ p) (p - 1) 1 = R := ⟨_, rfl⟩
  rw [hR]
  have HR := hid hR
  clear hR
  have hz : ¬ (p : Int) = 0 := by omega
  go_enter Try.func60, Try.ntmps60
  go_wp2_with fail
  go_loop [3] (fun d => ∃ k : Nat, d = .int .i64 k ∧ 1 ≤ k ∧ k ≤ p ∧ Sq.firstI (rootQ p) (p - k) k = R) (fun d => p - (intOf d).toNat)
  case atStart => exact ⟨1, rfl, by omega, by omega, HR.out⟩
  case round =>
    obtain ⟨k, rfl, hk1, hk2, hF⟩ := hrel
    have HF := hid hF
    clear hF
    by_cases hlt : k < p
    · have hkk : 0 ≤ (k : Int) * (k : Int) ∧ (k : Int) * (k : Int) ≤ 1000000000000 := by
        have := Nat.mul_le_mul (show k ≤ 1000000 by omega) (show k ≤ 1000000 by omega)
        rw [← Int.natCast_mul]; omega
      obtain ⟨r, hr⟩ : ∃ r : Nat, (k * k + 1) % p = r := ⟨_, rfl⟩
      have q1 := tmodN (k * k + 1) p
      rw [hr, Int.natCast_add, Int.natCast_mul, Int.natCast_one] at q1
      have hrk : r < p := by rw [← hr]; exact Nat.mod_lt _ (by omega)
      have HS := hid (show (if r = 0 then some k else Sq.firstI (rootQ p) (p - (k + 1)) (k + 1)) = R by
        rw [← HF.out, first_step _ hlt]; unfold rootQ; rw [hr]; by_cases h : r = 0 <;> simp [h])
      clear hr
      by_cases h0 : r = 0
      · have hd2 : ((r : Int) == 0) = true := by simp [h0]
        have HA := hid (show R.getD 0 = k by rw [← HS.out, if_pos h0]; rfl)
        go_wp2_with fail
        go_ret
        exact ⟨by rw [HA.out]; rfl, rfl⟩
      · have hd2 : ((r : Int) == 0) = false := by simp [h0]
        have HA := hid (show Sq.firstI (rootQ p) (p - (k + 1)) (k + 1) = R by rw [← HS.out, if_neg h0])
        go_wp2_with fail
        go_round
        case rel => exact ⟨k + 1, rfl, by omega, hlt, HA.out⟩
        case measure => simp [intOf]; omega
    · have HA := hid (show R.getD 0 = 0 by rw [← HF.out, show p - k = 0 by omega]; rfl)
      go_wp2_with fail
      go_ret
      exact ⟨by rw [HA.out]; rfl, rfl⟩
def rootOk (p : Int) : Bool := primUp p 1000000 && decide (p.tmod 4 ≠ 3)
def sqMinusAns (p : Int) : Option Int := if rootOk p = true then some (Sq.minusN p.toNat : Nat) else none
theorem primUp_iff {p m : Int} : primUp p m = true ↔ p ≤ m ∧ 2 ≤ p ∧ Sq.Prim p.toNat := by
  unfold primUp primI
  rw [Bool.and_eq_true, decide_eq_true_eq, Sq.primB_iff]
  constructor
  · rintro ⟨h1, h2⟩; exact ⟨h1, by have := h2.1; omega, h2⟩
  · rintro ⟨h1, _, h2⟩; exact ⟨h1, h2⟩
set_option maxHeartbeats 1000000 in
theorem specRootOfMinusOne_any (p : Int) (w : World) : Calls Try.prog 12 #[.int .i64 p] w fun e w' => NumAns w (sqMinusAns p) e w' := by
  cases hP : primUp p 1000000
  · have HP := hid hP
    have HA := hid (show sqMinusAns p = none by unfold sqMinusAns rootOk; rw [hP]; rfl)
    clear hP
    go_enter Try.func12, Try.ntmps12
    go_wp2_with (go_at_call 59; refine (sqGiven_as p 1000000 _ _ (by omega) HP.out).mono ?_; rintro e w2 ⟨rfl, rfl⟩)
    go_ret2
    exact ⟨by rw [HA.out]; rfl, Later.refl _⟩
  · have HP := hid hP
    obtain ⟨h1, h2, _⟩ := primUp_iff.1 hP
    obtain ⟨r, hr⟩ : ∃ r, p.tmod 4 = r := ⟨_, rfl⟩
    have hrb := tmod_in p 4 (by omega)
    rw [hr] at hrb
    have HRO := hid (show rootOk p = decide (r ≠ 3) by unfold rootOk; rw [hP, hr]; rfl)
    clear hP
    by_cases h3 : r = 3
    · have hd : (r == 3) = true := by simp [h3]
      have HA := hid (show sqMinusAns p = none by unfold sqMinusAns; rw [HRO.out, h3]; rfl)
      go_enter Try.func12, Try.ntmps12
      go_wp2_with (go_at_call 59; refine (sqGiven_as p 1000000 _ _ (by omega) HP.out).mono ?_; rintro e w2 ⟨rfl, rfl⟩)
      go_ret2
      exact ⟨by rw [HA.out]; rfl, Later.refl _⟩
    · have hd : (r == 3) = false := by simp [h3]
      obtain ⟨n, hn⟩ : ∃ n : Nat, p = (n : Int) := ⟨p.toNat, by omega⟩
      have HA := hid (show sqMinusAns p = some (Sq.minusN n : Nat) by unfold sqMinusAns; rw [HRO.out, if_pos (by simp [h3]), hn]; rfl)
      have HM := hid (fun w => sqMinus_any n w ⟨by omega, by omega⟩)
      rw [← hn] at HM
      clear hn
      go_enter Try.func12, Try.ntmps12
      go_wp2_with (first | (go_at_call 59; refine (sqGiven_as p 1000000 _ _ (by omega) HP.out).mono ?_; rintro e w2 ⟨rfl, rfl⟩) | (go_at_call 60; refine (HM.out _).mono ?_; rintro e w2 ⟨rfl, rfl⟩))
      go_ret2
      exact ⟨by rw [HA.out]; rfl, Later.refl _⟩

/-! ### the program -/
def pm (m : Nat) (l : List Nat) : Nat := l.foldl (fun a f => a * f % m) 1
theorem pm_snoc (m : Nat) (l : List Nat) (f : Nat) : pm m (l ++ [f]) = pm m l * f % m := by simp [pm]
theorem pm_le (m : Nat) (hm : 1 ≤ m) : ∀ l : List Nat, pm m l ≤ m := by
  intro l
  rcases List.eq_nil_or_concat l with rfl | ⟨l', f, rfl⟩
  · exact hm
  · rw [List.concat_eq_append, pm_snoc]; exact Nat.le_of_lt (Nat.mod_lt _ hm)
def ofNats (l : List Nat) : List Int := l.map fun n : Nat => (n : Int)
set_option maxHeartbeats 1000000 in
theorem productModulo_any (m : Nat) (v : Value) (l : List Nat) (w : World) (hm : 1 ≤ m ∧ m ≤ 1000000) (hl : ∀ f ∈ l, f ≤ 1000000) (h : Ints w v (ofNats l)) :
    Calls Try.prog 64 #[.int .i64 m, v] w fun e w' => e = .returned (.int .i64 (pm m l : Nat)) ∧ w = w' := by
  obtain ⟨hm1, hm2⟩ := hm
  obtain ⟨n, hn⟩ : ∃ n, n = l.length := ⟨_, rfl⟩
  obtain ⟨a, cap, rfl, hlen, hc⟩ := h
  have hlz : (ofNats l).length = n := by rw [hn]; simp [ofNats]
  rw [hlz] at hc hlen ⊢
  have HC := hid (show ∀ i (hi : i < l.length), ∃ ad, a = some ad ∧ w.cell? (ad.add i) = some (.int .i64 (l[i] : Nat)) from fun i hi => by
    obtain ⟨ad, h1, h2⟩ := hc i (by omega)
    refine ⟨ad, h1, ?_⟩
    rw [h2]; simp [ofNats, hi])
  have HL := hid hl
  have HN := hid hn
  clear hc hl hlz hn
  go_enter Try.func64, Try.ntmps64
  go_wp2_with fail
  go_loop [5, 10] (fun s i => ∃ k : Nat, k ≤ n ∧ i = .int .i64 k ∧ s = .int .i64 (pm m (l.take k) : Nat)) (fun _ i => n - (intOf i).toNat)
  case atStart => exact ⟨0, Nat.zero_le _, rfl, rfl⟩
  case round =>
    obtain ⟨k, hk, rfl, rfl⟩ := hrel
    have hpb := pm_le m hm1 (l.take k)
    obtain ⟨x, hx⟩ : ∃ x, pm m (l.take k) = x := ⟨_, rfl⟩
    have HX := hid hx
    rw [hx] at hpb ⊢
    clear hx
    by_cases hlt : k < n
    · have hkl : k < l.length := by rw [← HN.out]; exact hlt
      obtain ⟨ad, rfl, hcell⟩ := HC.out k hkl
      obtain ⟨f, hf⟩ : ∃ f, l[k] = f := ⟨_, rfl⟩
      have hfb : f ≤ 1000000 := by rw [← hf]; exact HL.out _ (List.getElem_mem hkl)
      have HS := hid (show pm m (l.take (k + 1)) = x * f % m by rw [take_snoc l k hkl, pm_snoc, HX.out, hf])
      rw [hf] at hcell
      clear hf hkl
      have hxf : 0 ≤ (x : Int) * (f : Int) ∧ (x : Int) * (f : Int) ≤ 1000000000000 := by
        have := Nat.mul_le_mul (show x ≤ 1000000 by omega) hfb
        rw [← Int.natCast_mul]; omega
      have HR := hid (fun w => remainder_any ((x : Int) * (f : Int)) m w ⟨by omega, by omega⟩)
      have HE := hid (show remT ((x : Int) * (f : Int)) m = ((x * f % m : Nat) : Int) by rw [← Int.natCast_mul]; exact remT_nat _ _ hm1)
      rw [HE.out] at HR
      clear HE
      go_wp2_with (go_at_call 111; refine (HR.out _).mono ?_; rintro e w2 ⟨rfl, rfl⟩)
      go_round
      case rel => exact ⟨k + 1, hlt, by go_num, by rw [HS.out, Int.natCast_emod, Int.natCast_mul]⟩
      case measure => simp [intOf]; omega
    · have HE := hid (show pm m l = x by rw [← HX.out, List.take_of_length_le (by rw [← HN.out]; omega)])
      go_wp2_with fail
      go_ret
      exact ⟨by rw [HE.out]; rfl, rfl⟩
end Go.Proofs.Ytofmmegpadojlaa
