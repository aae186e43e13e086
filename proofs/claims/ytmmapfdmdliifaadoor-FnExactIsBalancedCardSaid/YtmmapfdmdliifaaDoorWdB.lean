/- Whether letters are balanced, in both. -/
import Derived.Test.YtmmapfdmdliifaaDoorWdI
import Derived.WalkSpells
namespace Go.Proofs.YtmmapfdmdliifaaDoor
open Go.RowKit

/-- How many letters b stand in the n letters from i on. -/
def pbW (l : List UInt8) (n i : Nat) : Nat := cntB ((l.take (i + n)).drop i)
def leT (l : List UInt8) (n : Nat) : Nat → Nat
  | 0 => n
  | k + 1 => min (leT l n k) (pbW l n k)
def moT (l : List UInt8) (n : Nat) : Nat → Nat
  | 0 => 0
  | k + 1 => max (moT l n k) (pbW l n k)
def okN (l : List UInt8) (n : Nat) : Bool := decide (moT l n (l.length + 1 - n) ≤ leT l n (l.length + 1 - n) + 1)
def balW (l : List UInt8) : Bool := (List.range l.length).all (okN l)
def balAns (l : List UInt8) : Option Bool := if lettersW l = true then some (balW l) else none
theorem pbW_le (l : List UInt8) (n i : Nat) : pbW l n i ≤ n := by
  have h := cntB_le ((l.take (i + n)).drop i)
  rw [List.length_drop, List.length_take] at h
  unfold pbW
  omega
theorem leT_le (l : List UInt8) (n k : Nat) : leT l n k ≤ n := by
  induction k with
  | zero => exact Nat.le_refl _
  | succ k ih => unfold leT; omega
theorem moT_le (l : List UInt8) (n k : Nat) : moT l n k ≤ n := by
  induction k with
  | zero => exact Nat.zero_le _
  | succ k ih => have := pbW_le l n k; unfold moT; omega
theorem okN_zero (l : List UInt8) : okN l 0 = true := by
  have h1 := moT_le l 0 (l.length + 1 - 0)
  unfold okN
  exact decide_eq_true (by omega)
theorem ext_list0 (s : ByteArray) (a b : Nat) : (s.extract a b).data.toList = (s.data.toList.take b).drop a := by
  rw [ByteArray.data_extract, Array.toList_extract, List.extract_eq_take_drop, List.drop_take]
theorem ext_size0 (s : ByteArray) (a b : Nat) : (s.extract a b).size ≤ s.size := by
  rw [size_list, ext_list0, List.length_drop, List.length_take, ← size_list]; omega

def minI (a b : Int) : Int := if a < b then a else b
theorem l1Least_any (a b : Int) (w : World) : Calls Tryd.prog 54 #[.int .i64 a, .int .i64 b] w fun e w' => e = .returned (.int .i64 (minI a b)) ∧ w = w' := by
  by_cases h : a < b
  · go_enter Tryd.func54, Tryd.ntmps54
    go_wp2_with fail
    go_ret
    exact ⟨ret_int (by unfold minI; rw [if_pos (by assumption)]), rfl⟩
  · go_enter Tryd.func54, Tryd.ntmps54
    go_wp2_with fail
    go_ret
    exact ⟨ret_int (by unfold minI; rw [if_neg (by omega)]), rfl⟩
theorem minI_nat (a b : Nat) : minI (a : Int) (b : Int) = ((min a b : Nat) : Int) := by unfold minI; split <;> omega
theorem maxI_nat (a b : Nat) : maxI (a : Int) (b : Int) = ((max a b : Nat) : Int) := by unfold maxI; split <;> omega

set_option maxRecDepth 20000 in
set_option maxHeartbeats 4000000 in
theorem specIsBalanced_any (s : ByteArray) (w : World) (_hs : s.size ≤ 1048576) : Calls Tryd.prog 30 #[.string s] w fun e w' => BoolAns w (balAns s.data.toList) e w' := by
  have HC := hid (fun b w hb => chLetters_as s b w hb)
  cases hb : lettersW s.data.toList
  · have HA := hid (show balAns s.data.toList = none by unfold balAns; rw [if_neg (by simp [hb])])
    have HB := hid hb
    rw [HA.out]
    clear hb
    go_enter Tryd.func30, Tryd.ntmps30
    go_wp2_with fail
    refine (HC.out false _ HB.out).mono ?_
    rintro e w1 ⟨rfl, rfl⟩
    go_wp2_with fail
    go_ret2
    exact ⟨rfl, Later.refl _⟩
  · have HA := hid (show balAns s.data.toList = some (balW s.data.toList) by unfold balAns; rw [if_pos hb])
    obtain ⟨h1, h2, _⟩ := (lettersW_iff _).1 hb
    have HB := hid hb
    rw [← size_list] at h1 h2
    have HM := hid (fun a b w => chMany_any (s.extract a b) w (by have := ext_size0 s a b; omega))
    have HMI := hid (fun a b w => l1Least_any a b w)
    have HMX := hid (fun a b w => l1Most_any a b w)
    have HOK := hid (fun n => show okN s.data.toList n = decide (moT s.data.toList n (s.size + 1 - n) ≤ leT s.data.toList n (s.size + 1 - n) + 1) by rw [size_list]; rfl)
    have HBT := hid (fun (h : ∀ j, 1 ≤ j → j < s.size → okN s.data.toList j = true) => show balW s.data.toList = true by
      unfold balW
      rw [List.all_eq_true]
      intro j hj
      rw [List.mem_range, ← size_list] at hj
      rcases Nat.eq_zero_or_pos j with e | e
      · subst e; exact okN_zero _
      · exact h j e hj)
    have HBF := hid (fun j (hj : j < s.size) (h : okN s.data.toList j = false) => show balW s.data.toList = false by
      unfold balW
      rw [List.all_eq_false]
      exact ⟨j, List.mem_range.2 (by rw [← size_list]; exact hj), by simp [h]⟩)
    obtain ⟨B, hB⟩ : ∃ B, balW s.data.toList = B := ⟨_, rfl⟩
    rw [HA.out]
    rw [hB] at HBT HBF ⊢
    clear hb hB
    go_enter Tryd.func30, Tryd.ntmps30
    go_wp2_with fail
    refine (HC.out true _ HB.out).mono ?_
    rintro e w1 ⟨rfl, rfl⟩
    go_wp2_with fail
    go_loopw [4] (fun i wr => ∃ n : Nat, 1 ≤ n ∧ n ≤ s.size ∧ i = .int .i64 n ∧ (∀ j, 1 ≤ j → j < n → okN s.data.toList j = true) ∧ wr = w) (fun i _ => s.size - (intOf i).toNat)
    case atStart => exact ⟨1, Nat.le_refl _, h1, rfl, fun j h3 h4 => by omega, rfl⟩
    case round =>
      obtain ⟨n, hn1, hn, rfl, hok, rfl⟩ := hrel
      have HO := hid hok
      clear hok
      by_cases hlt : n < s.size
      · have hltI : (n : Int) < (s.size : Int) := by omega
        go_wp2_with fail
        go_loopw [5, 6, 7] (fun p q i wr2 => ∃ k : Nat, k ≤ s.size + 1 - n ∧ i = .int .i64 k ∧ p = .int .i64 (leT s.data.toList n k : Nat) ∧ q = .int .i64 (moT s.data.toList n k : Nat) ∧ wr2 = wr) (fun _ _ i _ => s.size + 1 - (intOf i).toNat)
        case atStart => exact ⟨0, Nat.zero_le _, rfl, rfl, rfl, rfl⟩
        case round =>
          obtain ⟨k, hk, rfl, rfl, rfl, rfl⟩ := hrel
          have b1 := leT_le s.data.toList n k
          have b2 := moT_le s.data.toList n k
          by_cases hkn : k + n ≤ s.size
          · have hkI : (k : Int) + (n : Int) ≤ (s.size : Int) := by omega
            have hkI2 : (k : Int) ≤ (k : Int) + (n : Int) := by omega
            have b3 := pbW_le s.data.toList n k
            have HP := hid (show leT s.data.toList n (k + 1) = min (leT s.data.toList n k) (pbW s.data.toList n k) from rfl)
            have HQ := hid (show moT s.data.toList n (k + 1) = max (moT s.data.toList n k) (pbW s.data.toList n k) from rfl)
            have HCN := hid (show cntB (s.extract k (k + n)).data.toList = pbW s.data.toList n k by rw [ext_list0]; rfl)
            obtain ⟨p, hp⟩ : ∃ p, leT s.data.toList n k = p := ⟨_, rfl⟩
            obtain ⟨q, hq⟩ : ∃ q, moT s.data.toList n k = q := ⟨_, rfl⟩
            obtain ⟨b, hb⟩ : ∃ b, pbW s.data.toList n k = b := ⟨_, rfl⟩
            rw [hp, hb] at HP
            rw [hq, hb] at HQ
            rw [hb] at HCN b3
            rw [hp] at b1 ⊢
            rw [hq] at b2 ⊢
            have HMk := hid (HM.out k (k + n) wr)
            rw [HCN.out] at HMk
            have hkn2 : k ≤ k + n := by omega
            have t1 : ((k : Int) + (n : Int)).toNat = k + n := by omega
            clear hp hq hb
            go_wp2_with fail
            refine HMk.out.mono ?_
            rintro e w2 ⟨rfl, rfl⟩
            go_wp2_with fail
            refine (HMI.out _ _ _).mono ?_
            rintro e w2 ⟨rfl, rfl⟩
            rw [minI_nat]
            go_wp2_with fail
            refine (HMX.out _ _ _).mono ?_
            rintro e w2 ⟨rfl, rfl⟩
            rw [maxI_nat]
            go_wp2_with fail
            go_roundw
            case rel => exact ⟨k + 1, by omega, by go_num, by rw [HP.out], by rw [HQ.out], by first | rfl | trivial⟩
            case measure => simp [intOf]; omega
          · have hkI : ¬ (k : Int) + (n : Int) ≤ (s.size : Int) := by omega
            have hke : s.size + 1 - n = k := by omega
            have HOn := hid (HOK.out n)
            rw [hke] at HOn
            obtain ⟨p, hp⟩ : ∃ p, leT s.data.toList n k = p := ⟨_, rfl⟩
            obtain ⟨q, hq⟩ : ∃ q, moT s.data.toList n k = q := ⟨_, rfl⟩
            rw [hp, hq] at HOn
            rw [hp] at b1 ⊢
            rw [hq] at b2 ⊢
            clear hp hq hke
            by_cases hd : (p : Int) + 1 < (q : Int)
            · have HF := hid (HBF.out n hlt (by rw [HOn.out]; exact decide_eq_false (by omega)))
              go_wp2_with fail
              go_ret2
              rw [HF.out]
              exact ⟨rfl, Later.refl _⟩
            · have HT := hid (show okN s.data.toList n = true by rw [HOn.out]; exact decide_eq_true (by omega))
              go_wp2_with fail
              go_roundw
              case rel => exact ⟨n + 1, by omega, hlt, by go_num, fun j h3 h4 => by
                  by_cases e : j = n
                  · subst e; exact HT.out
                  · exact HO.out j h3 (by omega), by first | rfl | trivial⟩
              case measure => simp [intOf]; omega
      · have HT := hid (HBT.out (fun j h3 h4 => HO.out j h3 (by omega)))
        go_wp2_with fail
        go_ret2
        rw [HT.out]
        exact ⟨rfl, Later.refl _⟩

set_option maxRecDepth 20000 in
set_option maxHeartbeats 4000000 in
theorem areBalancedParts_any (s : ByteArray) (n : Nat) (w : World) (hs : s.size ≤ 40) (hlt : n < s.size) : Calls Tryd.prog 56 #[.string s, .int .i64 (n : Nat)] w fun e w' => e = .returned (.bool (okN s.data.toList n)) ∧ w = w' := by
  have HM := hid (fun a b w => count_b (s.extract a b) w)
  have HOK := hid (show okN s.data.toList n = decide (moT s.data.toList n (s.size + 1 - n) ≤ leT s.data.toList n (s.size + 1 - n) + 1) by rw [size_list]; rfl)
  obtain ⟨B, hB⟩ : ∃ B, okN s.data.toList n = B := ⟨_, rfl⟩
  rw [hB] at HOK ⊢
  have hltI : (n : Int) < (s.size : Int) := by omega
  clear hB
  go_enter Tryd.func56, Tryd.ntmps56
  go_wp2_with fail
  go_loopw [5, 6, 15] (fun p q i wr2 => ∃ k : Nat, k ≤ s.size + 1 - n ∧ i = .int .i64 k ∧ p = .int .i64 (leT s.data.toList n k : Nat) ∧ q = .int .i64 (moT s.data.toList n k : Nat) ∧ wr2 = w) (fun _ _ i _ => s.size + 1 - (intOf i).toNat)
  case atStart => exact ⟨0, Nat.zero_le _, rfl, rfl, rfl, rfl⟩
  case round =>
    obtain ⟨k, hk, rfl, rfl, rfl, rfl⟩ := hrel
    have b1 := leT_le s.data.toList n k
    have b2 := moT_le s.data.toList n k
    by_cases hkn : k + n ≤ s.size
    · have hkI : (k : Int) + (n : Int) ≤ (s.size : Int) := by omega
      have hkI2 : (k : Int) ≤ (k : Int) + (n : Int) := by omega
      have hkI3 : (k : Int) < (s.size : Int) - (n : Int) + 1 := by omega
      have b3 := pbW_le s.data.toList n k
      have HP := hid (show leT s.data.toList n (k + 1) = min (leT s.data.toList n k) (pbW s.data.toList n k) from rfl)
      have HQ := hid (show moT s.data.toList n (k + 1) = max (moT s.data.toList n k) (pbW s.data.toList n k) from rfl)
      have HCN := hid (show cntB (s.extract k (k + n)).data.toList = pbW s.data.toList n k by rw [ext_list0]; rfl)
      obtain ⟨p, hp⟩ : ∃ p, leT s.data.toList n k = p := ⟨_, rfl⟩
      obtain ⟨q, hq⟩ : ∃ q, moT s.data.toList n k = q := ⟨_, rfl⟩
      obtain ⟨b, hb⟩ : ∃ b, pbW s.data.toList n k = b := ⟨_, rfl⟩
      rw [hp, hb] at HP
      rw [hq, hb] at HQ
      rw [hb] at HCN b3
      rw [hp] at b1 ⊢
      rw [hq] at b2 ⊢
      have HMk := hid (HM.out k (k + n) wr)
      rw [HCN.out] at HMk
      have hkn2 : k ≤ k + n := by omega
      have t1 : ((k : Int) + (n : Int)).toNat = k + n := by omega
      clear hp hq hb
      by_cases h1 : (b : Int) < (p : Int)
      · by_cases h2 : (q : Int) < (b : Int)
        · go_wp2_with fail
          refine HMk.out.mono ?_
          rintro e w2 ⟨rfl, rfl⟩
          go_wp2_with fail
          all_goals
            go_roundw
            case rel => exact ⟨k + 1, by omega, by go_num, by rw [HP.out]; congr 1; omega, by rw [HQ.out]; congr 1; omega, by first | rfl | trivial⟩
            case measure => simp [intOf]; omega
        · go_wp2_with fail
          refine HMk.out.mono ?_
          rintro e w2 ⟨rfl, rfl⟩
          go_wp2_with fail
          all_goals
            go_roundw
            case rel => exact ⟨k + 1, by omega, by go_num, by rw [HP.out]; congr 1; omega, by rw [HQ.out]; congr 1; omega, by first | rfl | trivial⟩
            case measure => simp [intOf]; omega
      · by_cases h2 : (q : Int) < (b : Int)
        · go_wp2_with fail
          refine HMk.out.mono ?_
          rintro e w2 ⟨rfl, rfl⟩
          go_wp2_with fail
          all_goals
            go_roundw
            case rel => exact ⟨k + 1, by omega, by go_num, by rw [HP.out]; congr 1; omega, by rw [HQ.out]; congr 1; omega, by first | rfl | trivial⟩
            case measure => simp [intOf]; omega
        · go_wp2_with fail
          refine HMk.out.mono ?_
          rintro e w2 ⟨rfl, rfl⟩
          go_wp2_with fail
          all_goals
            go_roundw
            case rel => exact ⟨k + 1, by omega, by go_num, by rw [HP.out]; congr 1; omega, by rw [HQ.out]; congr 1; omega, by first | rfl | trivial⟩
            case measure => simp [intOf]; omega
    · have hkI3 : ¬ (k : Int) < (s.size : Int) - (n : Int) + 1 := by omega
      have hke : s.size + 1 - n = k := by omega
      rw [hke] at HOK
      obtain ⟨p, hp⟩ : ∃ p, leT s.data.toList n k = p := ⟨_, rfl⟩
      obtain ⟨q, hq⟩ : ∃ q, moT s.data.toList n k = q := ⟨_, rfl⟩
      rw [hp, hq] at HOK
      rw [hp] at b1 ⊢
      rw [hq] at b2 ⊢
      clear hp hq hke
      by_cases hd : (q : Int) - (p : Int) ≤ 1
      · have HT := hid (show B = true by rw [HOK.out]; exact decide_eq_true (by omega))
        go_wp2_with fail
        go_ret
        exact ⟨ret_bool (by rw [HT.out]), by first | rfl | trivial⟩
      · have HT := hid (show B = false by rw [HOK.out]; exact decide_eq_false (by omega))
        have hdf : decide ((q : Int) - (p : Int) ≤ 1) = false := decide_eq_false hd
        go_wp2_with fail
        go_ret
        exact ⟨ret_bool (by rw [HT.out]), by first | rfl | trivial⟩
theorem areBalancedParts_as (s : ByteArray) (n : Nat) (b : Bool) (w : World) (hs : s.size ≤ 40) (hlt : n < s.size) (h : okN s.data.toList n = b) : Calls Tryd.prog 56 #[.string s, .int .i64 (n : Nat)] w fun e w' => e = .returned (.bool b) ∧ w = w' := by
  subst h; exact areBalancedParts_any s n w hs hlt

set_option maxRecDepth 20000 in
set_option maxHeartbeats 4000000 in
theorem implIsBalanced_any (s : ByteArray) (w : World) (hs : s.size ≤ 1048576) : Calls Tryd.prog 31 #[.string s] w fun e w' => BoolAns w (balAns s.data.toList) e w' := by
  have HC := hid (fun b w hb => implIsLetters_as s b w hs hb)
  cases hb : lettersW s.data.toList
  · have HA := hid (show balAns s.data.toList = none by unfold balAns; rw [if_neg (by simp [hb])])
    have HB := hid hb
    rw [HA.out]
    clear hb
    go_enter Tryd.func31, Tryd.ntmps31
    go_wp2_with fail
    refine (HC.out false _ HB.out).mono ?_
    rintro e w1 ⟨rfl, hL⟩
    go_wp2_with fail
    go_ret2
    exact ⟨rfl, hL⟩
  · have HA := hid (show balAns s.data.toList = some (balW s.data.toList) by unfold balAns; rw [if_pos hb])
    obtain ⟨h1, h2, _⟩ := (lettersW_iff _).1 hb
    have HB := hid hb
    rw [← size_list] at h1 h2
    have HP := hid (fun n b w hlt h => areBalancedParts_as s n b w h2 hlt h)
    have HBT := hid (fun (h : ∀ j, j < s.size → okN s.data.toList j = true) => show balW s.data.toList = true by
      unfold balW
      rw [List.all_eq_true]
      intro j hj
      rw [List.mem_range, ← size_list] at hj
      exact h j hj)
    have HBF := hid (fun j (hj : j < s.size) (h : okN s.data.toList j = false) => show balW s.data.toList = false by
      unfold balW
      rw [List.all_eq_false]
      exact ⟨j, List.mem_range.2 (by rw [← size_list]; exact hj), by simp [h]⟩)
    obtain ⟨B, hB⟩ : ∃ B, balW s.data.toList = B := ⟨_, rfl⟩
    rw [HA.out]
    rw [hB] at HBT HBF ⊢
    clear hb hB
    go_enter Tryd.func31, Tryd.ntmps31
    go_wp2_with fail
    refine (HC.out true _ HB.out).mono ?_
    rintro e w1 ⟨rfl, hL⟩
    have HL := hid hL
    clear hL
    go_wp2_with fail
    go_loopw [10] (fun i wr => ∃ n : Nat, n ≤ s.size ∧ i = .int .i64 n ∧ (∀ j, j < n → okN s.data.toList j = true) ∧ Later w wr) (fun i _ => s.size - (intOf i).toNat)
    case atStart => exact ⟨0, Nat.zero_le _, rfl, fun j h4 => by omega, HL.out⟩
    case round =>
      obtain ⟨n, hn, rfl, hok, hL⟩ := hrel
      have HO := hid hok
      have HLr := hid hL
      clear hok hL
      by_cases hlt : n < s.size
      · have hltI : (n : Int) < (s.size : Int) := by omega
        cases ho : okN s.data.toList n
        · have HF := hid (HBF.out n hlt ho)
          have HON := hid ho
          clear ho
          go_wp2_with fail
          refine (HP.out n false _ hlt HON.out).mono ?_
          rintro e w2 ⟨rfl, rfl⟩
          go_wp2_with fail
          go_ret2
          rw [HF.out]
          exact ⟨rfl, HLr.out⟩
        · have HON := hid ho
          clear ho
          go_wp2_with fail
          refine (HP.out n true _ hlt HON.out).mono ?_
          rintro e w2 ⟨rfl, rfl⟩
          go_wp2_with fail
          go_roundw
          case rel => exact ⟨n + 1, hlt, by go_num, fun j h4 => by
              by_cases e : j = n
              · subst e; exact HON.out
              · exact HO.out j (by omega), HLr.out⟩
          case measure => simp [intOf]; omega
      · have HT := hid (HBT.out (fun j h4 => HO.out j (by omega)))
        go_wp2_with fail
        go_ret2
        rw [HT.out]
        exact ⟨rfl, HLr.out⟩
end Go.Proofs.YtmmapfdmdliifaaDoor
