/- Prime numbers: what the model's and the program's checks answer. -/
import Derived.Test.YtofmmegpadojlaaSqD
import Derived.Test.YtofmmegpadojlaaMkSR
namespace Go.Proofs.Ytofmmegpadojlaa
open Go.RowKit

theorem tmodN (m k : Nat) : (m : Int).tmod (k : Int) = ((m % k : Nat) : Int) := by
  rw [Int.tmod_eq_emod_of_nonneg (by omega)]; exact (Int.natCast_emod m k).symm
theorem tdivN (m k : Nat) : (m : Int).tdiv (k : Int) = ((m / k : Nat) : Int) := by
  rw [Int.tdiv_eq_ediv_of_nonneg (by omega)]; exact (Int.natCast_ediv m k).symm
theorem sq_in {k m : Nat} (h : k * k ≤ m) (hm : m ≤ 1000000) : k ≤ 1000 := by
  refine Nat.not_lt.1 fun hk => ?_
  have := Nat.mul_le_mul (show 1001 ≤ k from hk) (show 1001 ≤ k from hk)
  omega
def primI (n : Int) : Bool := Sq.primB n.toNat
theorem primI_small {n : Int} (h : n < 2) : primI n = false := Sq.primB_small (by omega)

set_option maxHeartbeats 1000000 in
theorem sqIsPrime_any (n : Int) (w : World) (hn : n ≤ 1000000) :
    Calls Try.prog 110 #[.int .i64 n] w fun e w' => e = .returned (.bool (primI n)) ∧ w = w' := by
  by_cases h2 : n < 2
  · have HP := hid (primI_small h2)
    have h3 : ¬ (4 : Int) ≤ n := by omega
    have h4 : ¬ (2 : Int) ≤ n := by omega
    go_enter Try.func110, Try.ntmps110
    go_wp2_with fail
    go_loop [3] (fun d => d = .int .i64 2) (fun d => 0)
    case atStart => rfl
    case round =>
      subst hrel
      go_wp2_with fail
      go_ret
      exact ⟨ret_bool (by rw [HP.out]; simp; omega), rfl⟩
  · obtain ⟨m, rfl⟩ : ∃ m : Nat, n = (m : Int) := ⟨n.toNat, by omega⟩
    have hm2 : (2 : Int) ≤ (m : Int) := by omega
    obtain ⟨P, hP⟩ : ∃ P, primI (m : Int) = P := ⟨_, rfl⟩
    have HP := hid (show Sq.primB m = P from hP)
    rw [hP]
    clear hP h2
    go_enter Try.func110, Try.ntmps110
    go_wp2_with fail
    go_loop [3] (fun d => ∃ k : Nat, d = .int .i64 k ∧ 2 ≤ k ∧ k ≤ 1001 ∧ ∀ e, 2 ≤ e → e < k → m % e ≠ 0) (fun d => 1002 - (intOf d).toNat)
    case atStart => exact ⟨2, rfl, by omega, by omega, fun e h1 h2 => by omega⟩
    case round =>
      obtain ⟨k, rfl, hk2, hk1, hne⟩ := hrel
      have HN := hid hne
      clear hne
      have hz : ¬ (k : Int) = 0 := by omega
      have hkk : 0 ≤ (k : Int) * (k : Int) ∧ (k : Int) * (k : Int) ≤ 1002001 := by
        have := Nat.mul_le_mul hk1 hk1
        rw [← Int.natCast_mul]; omega
      by_cases hle : (k : Int) * (k : Int) ≤ (m : Int)
      · have HL := hid (show k * k ≤ m by rw [← Int.natCast_mul] at hle; omega)
        have hk0 : k ≤ 1000 := sq_in HL.out (by omega)
        obtain ⟨r, hr⟩ : ∃ r : Nat, m % k = r := ⟨_, rfl⟩
        have q1 := tmodN m k
        rw [hr] at q1
        have hrk : r < k := by rw [← hr]; exact Nat.mod_lt _ (by omega)
        have HR := hid hr
        clear hr
        by_cases h0 : r = 0
        · have hd : (r == 0) = true := by simp [h0]
          have hd2 : ((r : Int) == 0) = true := by simp [h0]
          have HF := hid (show false = P by rw [← HP.out, Sq.primB_no hk2 HL.out (by rw [HR.out, h0])])
          clear h0
          go_wp2_with fail
          go_ret
          exact ⟨ret_bool HF.out, rfl⟩
        · have hd : (r == 0) = false := by simp [h0]
          have hd2 : ((r : Int) == 0) = false := by simp [h0]
          go_wp2_with fail
          go_round
          case rel => exact ⟨k + 1, rfl, by omega, by omega, fun e h1 h2 => by
            by_cases he : e = k
            · rw [he, HR.out]; exact h0
            · exact HN.out e h1 (by omega)⟩
          case measure => simp [intOf]; omega
      · have HF := hid (show true = P by rw [← HP.out, Sq.primB_yes (by omega) k (by rw [← Int.natCast_mul] at hle; omega) HN.out])
        go_wp2_with fail
        go_ret
        exact ⟨ret_bool (by rw [← HF.out]), rfl⟩
set_option maxHeartbeats 1000000 in
theorem sqPrime_any (n : Int) (w : World) (hn : n ≤ 1000000) :
    Calls Try.prog 69 #[.int .i64 n] w fun e w' => e = .returned (.bool (primI n)) ∧ w = w' := by
  by_cases h2 : n < 2
  · have HP := hid (primI_small h2)
    have h3 : ¬ (4 : Int) ≤ n := by omega
    have h4 : ¬ (1 : Int) < n := by omega
    go_enter Try.func69, Try.ntmps69
    go_wp2_with fail
    go_loop [3] (fun d => d = .int .i64 2) (fun d => 0)
    case atStart => rfl
    case round =>
      subst hrel
      go_wp2_with fail
      go_ret
      exact ⟨ret_bool (by rw [HP.out]; simp; omega), rfl⟩
  · obtain ⟨m, rfl⟩ : ∃ m : Nat, n = (m : Int) := ⟨n.toNat, by omega⟩
    have hm2 : (1 : Int) < (m : Int) := by omega
    obtain ⟨P, hP⟩ : ∃ P, primI (m : Int) = P := ⟨_, rfl⟩
    have HP := hid (show Sq.primB m = P from hP)
    rw [hP]
    clear hP h2
    go_enter Try.func69, Try.ntmps69
    go_wp2_with fail
    go_loop [3] (fun d => ∃ k : Nat, d = .int .i64 k ∧ 2 ≤ k ∧ k ≤ 1001 ∧ ∀ e, 2 ≤ e → e < k → m % e ≠ 0) (fun d => 1002 - (intOf d).toNat)
    case atStart => exact ⟨2, rfl, by omega, by omega, fun e h1 h2 => by omega⟩
    case round =>
      obtain ⟨k, rfl, hk2, hk1, hne⟩ := hrel
      have HN := hid hne
      clear hne
      have hz : ¬ (k : Int) = 0 := by omega
      have hkk : 0 ≤ (k : Int) * (k : Int) ∧ (k : Int) * (k : Int) ≤ 1002001 := by
        have := Nat.mul_le_mul hk1 hk1
        rw [← Int.natCast_mul]; omega
      by_cases hle : (k : Int) * (k : Int) ≤ (m : Int)
      · have HL := hid (show k * k ≤ m by rw [← Int.natCast_mul] at hle; omega)
        have hk0 : k ≤ 1000 := sq_in HL.out (by omega)
        obtain ⟨r, hr⟩ : ∃ r : Nat, m % k = r := ⟨_, rfl⟩
        have q1 := tmodN m k
        rw [hr] at q1
        have hrk : r < k := by rw [← hr]; exact Nat.mod_lt _ (by omega)
        have HR := hid hr
        clear hr
        by_cases h0 : r = 0
        · have hd : (r == 0) = true := by simp [h0]
          have hd2 : ((r : Int) == 0) = true := by simp [h0]
          have HF := hid (show false = P by rw [← HP.out, Sq.primB_no hk2 HL.out (by rw [HR.out, h0])])
          clear h0
          go_wp2_with fail
          go_ret
          exact ⟨ret_bool HF.out, rfl⟩
        · have hd : (r == 0) = false := by simp [h0]
          have hd2 : ((r : Int) == 0) = false := by simp [h0]
          go_wp2_with fail
          go_round
          case rel => exact ⟨k + 1, rfl, by omega, by omega, fun e h1 h2 => by
            by_cases he : e = k
            · rw [he, HR.out]; exact h0
            · exact HN.out e h1 (by omega)⟩
          case measure => simp [intOf]; omega
      · have HF := hid (show true = P by rw [← HP.out, Sq.primB_yes (by omega) k (by rw [← Int.natCast_mul] at hle; omega) HN.out])
        go_wp2_with fail
        go_ret
        exact ⟨ret_bool (by rw [← HF.out]), rfl⟩
end Go.Proofs.Ytofmmegpadojlaa
