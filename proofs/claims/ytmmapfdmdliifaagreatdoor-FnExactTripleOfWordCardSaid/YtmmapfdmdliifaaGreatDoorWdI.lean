/- Letters and their counts, the program's; the model's count. -/
import Derived.Test.YtmmapfdmdliifaaGreatDoorWdS
namespace Go.Proofs.YtmmapfdmdliifaaGreatDoor
open Go.RowKit

theorem bytes_empty {s : ByteArray} (h : s.size = 0) : s = ⟨#[]⟩ := ByteArray.ext (Array.eq_empty_of_size_eq_zero h)
theorem toList_empty_iff (s : ByteArray) : s.toList = [] ↔ s.size = 0 := by
  rw [Lib.toList_data, size_list, List.length_eq_zero_iff]
theorem trim_ab (s : ByteArray) (w : World) (hs : s.size ≤ 1048576) :
    Calls Tryz.prog 53 #[.string s, .string ⟨#[97, 98]⟩] w fun e w' => e = .returned (.string ⟨(Lib.trimS s.data.toList [97, 98]).toArray⟩) ∧ Later w w' :=
  Any.strings_Trim_laid laysLays160 (by kernel_rfl) s ⟨#[97, 98]⟩ w (by omega) (by decide) (ascii_of_all (by decide))
theorem trim_ab_as (s : ByteArray) (r : ByteArray) (w : World) (hs : s.size ≤ 1048576) (hr : (⟨(Lib.trimS s.data.toList [97, 98]).toArray⟩ : ByteArray) = r) :
    Calls Tryz.prog 53 #[.string s, .string ⟨#[97, 98]⟩] w fun e w' => e = .returned (.string r) ∧ Later w w' := by
  subst hr; exact trim_ab s w hs
theorem neq_empty (s : ByteArray) (h : ¬ s.size = 0) : s.toList.isEmpty = false := by
  rw [List.isEmpty_eq_false_iff]; exact fun e => h ((toList_empty_iff s).1 e)

set_option maxHeartbeats 1000000 in
theorem implIsLetters_any (s : ByteArray) (w : World) (hs : s.size ≤ 1048576) : Calls Tryz.prog 32 #[.string s] w fun e w' => BoolRes w (lettersW s.data.toList) e w' := by
  by_cases h0 : s.size = 0
  · have HN := hid (lettersW_not (l := s.data.toList) (by rw [← size_list]; omega))
    have he := bytes_empty h0
    rw [HN.out]
    subst he
    clear h0 hs
    go_enter Tryz.func32, Tryz.ntmps32
    go_wp2_with fail
    go_ret
    exact ⟨rfl, Later.refl _⟩
  · have hne := neq_empty s h0
    by_cases h40 : (s.size : Int) ≤ 40
    · obtain ⟨r, hr⟩ : ∃ r, (⟨(Lib.trimS s.data.toList [97, 98]).toArray⟩ : ByteArray) = r := ⟨_, rfl⟩
      have HT := hid (fun w => trim_ab_as s r w hs hr)
      by_cases hr0 : r.size = 0
      · have hrl : Lib.trimS s.data.toList [97, 98] = [] := by
          have h1 : r.data.toList = [] := by rw [← List.length_eq_zero_iff, ← size_list]; exact hr0
          rw [← hr] at h1
          simpa using h1
        have HN := hid ((lettersW_iff s.data.toList).2 ⟨by rw [← size_list]; omega, by rw [← size_list]; omega, (trim_nil_iff _).1 hrl⟩)
        have her := bytes_empty hr0
        rw [HN.out]
        subst her
        clear hr hrl hr0
        go_enter Tryz.func32, Tryz.ntmps32
        go_wp2_with fail
        refine (HT.out _).mono ?_
        rintro e w1 ⟨rfl, hL⟩
        go_wp2_with fail
        go_ret
        exact ⟨rfl, hL⟩
      · have hner := neq_empty r hr0
        have HN := hid (show lettersW s.data.toList = false by
          cases e : lettersW s.data.toList
          · rfl
          · have h1 := (trim_nil_iff _).2 ((lettersW_iff _).1 e).2.2
            rw [h1] at hr
            subst hr
            exact (hr0 rfl).elim)
        rw [HN.out]
        clear hr hr0
        go_enter Tryz.func32, Tryz.ntmps32
        go_wp2_with fail
        refine (HT.out _).mono ?_
        rintro e w1 ⟨rfl, hL⟩
        go_wp2_with fail
        go_ret
        exact ⟨rfl, hL⟩
    · have HN := hid (lettersW_not (l := s.data.toList) (by rw [← size_list]; omega))
      have hd : decide ((s.size : Int) ≤ 40) = false := decide_eq_false h40
      rw [HN.out]
      go_enter Tryz.func32, Tryz.ntmps32
      go_wp2_with fail
      go_ret
      exact ⟨rfl, Later.refl _⟩
theorem implIsLetters_as (s : ByteArray) (b : Bool) (w : World) (hs : s.size ≤ 1048576) (h : lettersW s.data.toList = b) :
    Calls Tryz.prog 32 #[.string s] w fun e w' => e = .returned (.bool b) ∧ Later w w' := by
  subst h; exact implIsLetters_any s w hs

set_option maxHeartbeats 1000000 in
theorem chMany_any (s : ByteArray) (w : World) (hs : s.size ≤ 1048576) : Calls Tryz.prog 48 #[.string s] w fun e w' => e = .returned (.int .i64 (cntB s.data.toList : Nat)) ∧ w = w' := by
  go_enter Tryz.func48, Tryz.ntmps48
  go_wp2_with fail
  go_loop [3, 4] (fun n i => ∃ k : Nat, k ≤ s.size ∧ n = .int .i64 (cntB (s.data.toList.take k) : Nat) ∧ i = .int .i64 k) (fun _ i => s.size - (intOf i).toNat)
  case atStart => exact ⟨0, Nat.zero_le _, rfl, rfl⟩
  case round =>
    obtain ⟨k, hk, rfl, rfl⟩ := hrel
    by_cases hlt : k < s.size
    · have HT := hid (byte_take s k hlt)
      have hltI : (k : Int) < (s.size : Int) := by omega
      have e98 := u8_iff (s[k]'hlt) 98 (by decide)
      have hc := cntB_le (s.data.toList.take k)
      have hc2 : (s.data.toList.take k).length ≤ k := by rw [List.length_take]; omega
      have HC := hid (show cntB (s.data.toList.take (k + 1)) = cntB (s.data.toList.take k) + (if (s[k]'hlt) = 98 then 1 else 0) by
        rw [HT.out]; unfold cntB; rw [List.count_append]; congr 1; rw [List.count_singleton]; simp)
      obtain ⟨m, hm⟩ : ∃ m, cntB (s.data.toList.take k) = m := ⟨_, rfl⟩
      rw [hm] at hc HC ⊢
      have hm1 : m ≤ 1048576 := by omega
      clear hm hc hc2
      by_cases h98 : (s[k]'hlt) = 98
      · have hb98 : (((s[k]'hlt).toNat : Int) == 98) = true := by rw [show ((98 : Int)) = ((98 : Nat) : Int) from rfl, e98, h98]; rfl
        have HC2 := hid (show cntB (s.data.toList.take (k + 1)) = m + 1 by rw [HC.out, if_pos h98])
        clear e98 h98
        go_wp2_with fail
        go_round
        case rel => exact ⟨k + 1, hlt, by rw [HC2.out]; go_num, by go_num⟩
        case measure => simp [intOf]; omega
      · have hb98 : (((s[k]'hlt).toNat : Int) == 98) = false := by rw [show ((98 : Int)) = ((98 : Nat) : Int) from rfl, e98]; simp; exact h98
        have HC2 := hid (show cntB (s.data.toList.take (k + 1)) = m by rw [HC.out, if_neg h98]; rfl)
        clear e98 h98
        go_wp2_with fail
        go_round
        case rel => exact ⟨k + 1, hlt, by rw [HC2.out], by go_num⟩
        case measure => simp [intOf]; omega
    · have HE := hid (show s.data.toList.take k = s.data.toList from List.take_of_length_le (by rw [← size_list]; omega))
      rw [HE.out]
      go_wp2_with fail
      go_ret
      exact ⟨rfl, rfl⟩
theorem count_b (s : ByteArray) (w : World) : Calls Tryz.prog 58 #[.string s, .string ⟨#[98]⟩] w fun e w' => e = .returned (.int .i64 (cntB s.data.toList : Nat)) ∧ w' = w :=
  Any.strings_Count_one laysLays138 s 98 w

set_option maxHeartbeats 1000000 in
theorem implCountsOf_any (s : ByteArray) (w : World) (hs : s.size ≤ 1048576) : Calls Tryz.prog 34 #[.string s] w fun e w' => TwoAns w (countsAns s.data.toList) e w' := by
  have HC := hid (fun b hb => implIsLetters_as s b w hs hb)
  have HM := hid (fun w => count_b s w)
  have hle := cntB_le s.data.toList
  rw [← size_list] at hle
  have HA := hid (show countsAns s.data.toList = if lettersW s.data.toList = true then some (((s.data.toList.length - cntB s.data.toList : Nat) : Int), (cntB s.data.toList : Int)) else none from rfl)
  rw [← size_list] at HA
  obtain ⟨c, hc⟩ : ∃ c, cntB s.data.toList = c := ⟨_, rfl⟩
  rw [hc] at HA HM hle
  clear hc
  have hsub : ((s.size - c : Nat) : Int) = (s.size : Int) - (c : Int) := by omega
  rw [hsub] at HA
  clear hsub
  cases hb : lettersW s.data.toList
  · have HA2 := hid (show countsAns s.data.toList = none by rw [HA.out, if_neg (by simp [hb])])
    have HB := hid hb
    rw [HA2.out]
    clear hb
    go_enter Tryz.func34, Tryz.ntmps34
    go_wp2_with fail
    refine (HC.out false HB.out).mono ?_
    rintro e w' ⟨rfl, hL⟩
    go_wp2_with fail
    go_ret3
    exact ⟨rfl, hL⟩
  · have HA2 := hid (show countsAns s.data.toList = some ((s.size : Int) - (c : Int), (c : Int)) by rw [HA.out, if_pos hb])
    have HB := hid hb
    rw [HA2.out]
    clear hb
    go_enter Tryz.func34, Tryz.ntmps34
    go_wp2_with fail
    refine (HC.out true HB.out).mono ?_
    rintro e w' ⟨rfl, hL⟩
    go_wp2_with fail
    refine (HM.out _).mono ?_
    rintro e w2 ⟨rfl, rfl⟩
    go_wp2_with fail
    go_ret3
    exact ⟨rfl, hL⟩
end Go.Proofs.YtmmapfdmdliifaaGreatDoor
