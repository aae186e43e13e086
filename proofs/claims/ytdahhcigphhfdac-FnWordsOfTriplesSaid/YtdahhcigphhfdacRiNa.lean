/- Ranks of words over three letters: both functions. -/
import Derived.Test.YtdahhcigphhfdacRiN
import Derived.Test.YtdahhcigphhfdacBasB
import Derived.Test.YtdahhcigphhfdacIdxA
namespace Go.Proofs.Ytdahhcigphhfdac
open Go.RowKit

def wordN (zs : List Int) (n : Nat) : Bool := decide (zs.length ≤ 40) && zs.all (within 0 ((n : Int) - 1))
theorem within_ltN {n : Nat} {x : Int} : within 0 ((n : Int) - 1) x = (decide (0 ≤ x) && decide (x < (n : Int))) := by
  unfold within
  congr 1
  exact decide_eq_decide.2 (by omega)
theorem isIndexWordN_any (v : Value) (zs : List Int) (n : Nat) (w : World) (h : Ints w v zs) :
    Calls Try.prog 102 #[v, .int .i64 (n : Nat)] w fun e w' => e = .returned (.bool (wordN zs n)) ∧ w = w' := by
  unfold wordN; exact isIdx_any v zs n w h

theorem isIndexWordN3_as (v : Value) (zs : List Int) (o : Bool) (w : World) (hl : zs.length ≤ 40) (ho : zs.all (within 0 2) = o) (h : Ints w v zs) :
    Calls Try.prog 102 #[v, .int .i64 3] w fun e w' => e = .returned (.bool o) ∧ w = w' := by
  subst ho
  have := isIndexWordN_any v zs 3 w h
  rw [show wordN zs 3 = zs.all (within 0 2) by unfold wordN; rw [decide_eq_true hl]; rfl] at this
  exact this
theorem l1AllN_as (v : Value) (zs : List Int) (o : Bool) (w : World) (ho : zs.all (within 0 2) = o) (h : Ints w v zs) :
    Calls Try.prog 103 #[v, .int .i64 0, .int .i64 2] w fun e w' => e = .returned (.bool o) ∧ w = w' := by
  subst ho; exact l1All_any v zs 0 2 w h
def rankAns (zs : List Int) : Option Int := if zs.length ≤ 18 ∧ zs.all (within 0 2) = true then some (rankL zs) else none
theorem tri_take {zs : List Int} (h : zs.all (within 0 2) = true) (k : Nat) : tri (zs.take k) := by
  intro z hz
  rw [List.all_eq_true] at h
  have := h z (List.mem_of_mem_take hz)
  simpa [within] using this
theorem rank_step {zs : List Int} (k : Nat) (hk : k < zs.length) : rankL (zs.take (k + 1)) = 3 * rankL (zs.take k) + 1 + zs.getD k 0 ∧ valL (zs.take (k + 1)) = 3 * valL (zs.take k) + zs.getD k 0 := by
  rw [take_snoc zs k hk, rankL_snoc, valL_snoc, getD_at zs k hk]
  exact ⟨rfl, rfl⟩
theorem rank_bds {zs : List Int} (h : zs.all (within 0 2) = true) (hl : zs.length ≤ 18) (k : Nat) : 0 ≤ rankL (zs.take k) ∧ rankL (zs.take k) ≤ 6000000000 ∧ 0 ≤ valL (zs.take k) ∧ valL (zs.take k) ≤ 6000000000 := by
  have hlen : (zs.take k).length ≤ 18 := by rw [List.length_take]; omega
  obtain ⟨r1, r2⟩ := rankL_bd (tri_take h k) (by omega)
  obtain ⟨v1, v2⟩ := valL_bd _ (tri_take h k)
  have := pow3_le (show (zs.take k).length ≤ 20 by omega)
  omega

set_option maxHeartbeats 1000000 in
theorem riPower_as (n P0 : Nat) (hn : n ≤ 20) (hP0 : 3 ^ n = P0) (w : World) : Calls Try.prog 104 #[.int .i64 (n : Nat)] w fun e w' => e = .returned (.int .i64 (P0 : Int)) ∧ w = w' := by
  have HP0 := hid hP0
  clear hP0
  go_enter Try.func104, Try.ntmps104
  go_wp2_with fail
  go_loop [0, 3] (fun o0 o3 => ∃ k : Nat, k ≤ n ∧ o0 = .int .i64 k ∧ o3 = .int .i64 ((3 ^ (n - k) : Nat) : Int)) (fun o0 _ => (intOf o0).toNat)
  case atStart => exact ⟨n, Nat.le_refl _, rfl, by simp⟩
  case round =>
    obtain ⟨k, hk, rfl, rfl⟩ := hrel
    obtain ⟨P, hP⟩ : ∃ P : Nat, 3 ^ (n - k) = P := ⟨_, rfl⟩
    have hPb : P ≤ 3486784401 := by rw [← hP]; exact pow3_le (by omega)
    have HP := hid hP
    rw [hP]
    clear hP
    by_cases h0 : 0 < k
    · have HN := hid (show ((3 ^ (n - (k - 1)) : Nat) : Int) = (P : Int) * 3 by rw [← HP.out, show n - (k - 1) = n - k + 1 by omega, Nat.pow_succ]; simp)
      go_wp2_with fail
      go_round
      case rel => exact ⟨k - 1, by omega, by go_num, by rw [HN.out]⟩
      case measure => simp [intOf]; omega
    · obtain rfl : P = P0 := by rw [← HP.out, ← HP0.out, show n - k = n by omega]
      go_wp2_with fail
      go_ret
      exact ⟨rfl, rfl⟩

set_option maxHeartbeats 2000000 in
theorem specRankOfWord_any (v : Value) (zs : List Int) (w : World) (h : Ints w v zs) :
    Calls Try.prog 56 #[v] w fun e w' => NumAns w (rankAns zs) e w' := by
  have H := hid h
  obtain ⟨a, cap, rfl, hl, hc⟩ := id h
  by_cases h18 : zs.length ≤ 18
  · have hn18 : ¬ (18 : Int) < (zs.length : Int) := by omega
    cases hw : zs.all (within 0 2)
    · have HW := hid hw
      have HA := hid (show rankAns zs = none by unfold rankAns; rw [hw]; simp)
      clear hw h hc
      go_enter Try.func56, Try.ntmps56
      go_wp2_with (go_at_call 103; refine (l1AllN_as _ zs _ _ HW.out H.out).mono ?_; rintro e w1 ⟨rfl, rfl⟩)
      go_ret2
      exact ⟨by rw [HA.out]; rfl, Later.refl _⟩
    · have HW := hid hw
      have HA := hid (show rankAns zs = some (rankL zs) by unfold rankAns; rw [if_pos ⟨h18, hw⟩])
      have HC := hid hc
      have HBD := hid (fun k => rank_bds hw h18 k)
      have HZB := hid (fun k (hk : k < zs.length) => show 0 ≤ zs.getD k 0 ∧ zs.getD k 0 ≤ 2 by rw [getD_at zs k hk]; have := (List.all_eq_true.1 hw) zs[k] (List.getElem_mem hk); simpa [within] using this)
      have HR := hid (rankL_eq zs)
      obtain ⟨S, hS⟩ : ∃ S, shortN zs.length = S := ⟨_, rfl⟩
      have hP : 3 ^ zs.length = 2 * S + 1 := by rw [short_pow, hS]
      have hSb : S ≤ 3000000000 := by have := pow3_le (show zs.length ≤ 20 by omega); omega
      rw [hS] at HR
      have HPW := hid (fun w0 => riPower_as zs.length (2 * S + 1) (by omega) hP w0)
      have hq : (((2 * S + 1 : Nat) : Int) - 1).tdiv 2 = (S : Int) := by rw [Int.tdiv_eq_ediv_of_nonneg (by omega)]; omega
      clear hw h hc hS hP
      go_enter Try.func56, Try.ntmps56
      go_wp2_with (first | (go_at_call 103; refine (l1AllN_as _ zs _ _ HW.out H.out).mono ?_; rintro e w1 ⟨rfl, rfl⟩) | (go_at_call 104; refine (HPW.out _).mono ?_; rintro e w2 ⟨rfl, rfl⟩))
      go_loop [5, 23] (fun o5 o23 => ∃ k : Nat, k ≤ zs.length ∧ o23 = .int .i64 k ∧ o5 = .int .i64 (valL (zs.take k))) (fun _ o23 => zs.length - (intOf o23).toNat)
      case atStart => exact ⟨0, Nat.zero_le _, rfl, rfl⟩
      case round =>
        obtain ⟨k, hk, rfl, rfl⟩ := hrel
        obtain ⟨_, _, b1, b2⟩ := HBD.out k
        by_cases hlt : k < zs.length
        · obtain ⟨ad, rfl, hcell⟩ := HC.out k hlt
          have HS := hid (rank_step k hlt).2
          obtain ⟨z1, z2⟩ := HZB.out k hlt
          obtain ⟨z, hz⟩ : ∃ z, zs.getD k 0 = z := ⟨_, rfl⟩
          obtain ⟨V, hV⟩ : ∃ V, valL (zs.take k) = V := ⟨_, rfl⟩
          rw [hz] at hcell HS z1 z2
          rw [hV] at HS b1 b2 ⊢
          clear hz hV
          go_wp2_with fail
          go_round
          case rel => exact ⟨k + 1, hlt, by go_num, by rw [HS.out]⟩
          case measure => simp [intOf]; omega
        · have HT := hid (take_all zs k (by omega))
          obtain ⟨V, hV⟩ : ∃ V, valL (zs.take k) = V := ⟨_, rfl⟩
          have HV := hid hV
          rw [hV] at b1 b2 ⊢
          clear hV
          go_wp2_with fail
          go_ret2
          exact ⟨by rw [HA.out, HR.out, ← HV.out, HT.out]; rfl, Later.refl _⟩
  · have hn18 : (18 : Int) < (zs.length : Int) := by omega
    have HA := hid (show rankAns zs = none by unfold rankAns; rw [if_neg fun hh => h18 hh.1])
    clear h hc
    go_enter Try.func56, Try.ntmps56
    go_wp2_with fail
    go_ret2
    exact ⟨by rw [HA.out]; rfl, Later.refl _⟩

set_option maxHeartbeats 2000000 in
theorem implRankOfWord_any (v : Value) (zs : List Int) (w : World) (h : Ints w v zs) :
    Calls Try.prog 55 #[v] w fun e w' => NumAns w (rankAns zs) e w' := by
  have H := hid h
  obtain ⟨a, cap, rfl, hl, hc⟩ := id h
  by_cases h18 : zs.length ≤ 18
  · have hn18 : ¬ (18 : Int) < (zs.length : Int) := by omega
    cases hw : zs.all (within 0 2)
    · have HW := hid hw
      have HA := hid (show rankAns zs = none by unfold rankAns; rw [hw]; simp)
      clear hw h hc
      go_enter Try.func55, Try.ntmps55
      go_wp2_with (go_at_call 102; refine (isIndexWordN3_as _ zs _ _ (by omega) HW.out H.out).mono ?_; rintro e w1 ⟨rfl, rfl⟩)
      go_ret2
      exact ⟨by rw [HA.out]; rfl, Later.refl _⟩
    · have HW := hid hw
      have HA := hid (show rankAns zs = some (rankL zs) by unfold rankAns; rw [if_pos ⟨h18, hw⟩])
      have HC := hid hc
      have HBD := hid (fun k => rank_bds hw h18 k)
      have HZB := hid (fun k (hk : k < zs.length) => show 0 ≤ zs.getD k 0 ∧ zs.getD k 0 ≤ 2 by rw [getD_at zs k hk]; have := (List.all_eq_true.1 hw) zs[k] (List.getElem_mem hk); simpa [within] using this)
      clear hw h hc
      go_enter Try.func55, Try.ntmps55
      go_wp2_with (go_at_call 102; refine (isIndexWordN3_as _ zs _ _ (by omega) HW.out H.out).mono ?_; rintro e w1 ⟨rfl, rfl⟩)
      go_loop [4, 17] (fun o4 o17 => ∃ k : Nat, k ≤ zs.length ∧ o17 = .int .i64 k ∧ o4 = .int .i64 (rankL (zs.take k))) (fun _ o17 => zs.length - (intOf o17).toNat)
      case atStart => exact ⟨0, Nat.zero_le _, rfl, rfl⟩
      case round =>
        obtain ⟨k, hk, rfl, rfl⟩ := hrel
        obtain ⟨b1, b2, _, _⟩ := HBD.out k
        by_cases hlt : k < zs.length
        · obtain ⟨ad, rfl, hcell⟩ := HC.out k hlt
          have HS := hid (rank_step k hlt).1
          obtain ⟨z1, z2⟩ := HZB.out k hlt
          obtain ⟨z, hz⟩ : ∃ z, zs.getD k 0 = z := ⟨_, rfl⟩
          obtain ⟨V, hV⟩ : ∃ V, rankL (zs.take k) = V := ⟨_, rfl⟩
          rw [hz] at hcell HS z1 z2
          rw [hV] at HS b1 b2 ⊢
          clear hz hV
          go_wp2_with fail
          go_round
          case rel => exact ⟨k + 1, hlt, by go_num, by rw [HS.out]⟩
          case measure => simp [intOf]; omega
        · have HT := hid (take_all zs k (by omega))
          go_wp2_with fail
          go_ret2
          exact ⟨by rw [HA.out, HT.out]; rfl, Later.refl _⟩
  · have hn18 : (18 : Int) < (zs.length : Int) := by omega
    have HA := hid (show rankAns zs = none by unfold rankAns; rw [if_neg fun hh => h18 hh.1])
    clear h hc
    go_enter Try.func55, Try.ntmps55
    go_wp2_with fail
    go_ret2
    exact ⟨by rw [HA.out]; rfl, Later.refl _⟩
end Go.Proofs.Ytdahhcigphhfdac
