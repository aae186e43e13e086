/- Letters and their counts: the model's functions, and the program's over the library's Trim and Count. -/
import Derived.Test.YtmmapfdmdliifaaGreatDoorWd
import Derived.Test.YtmmapfdmdliifaaGreatDoorAns4
import Derived.Test.YtmmapfdmdliifaaGreatDoorLayTrim
import Derived.Test.YtmmapfdmdliifaaGreatDoorLayCount
import Derived.WalkLawsBesides
namespace Go.Proofs.YtmmapfdmdliifaaGreatDoor
open Go.RowKit

theorem size_list (s : ByteArray) : s.size = s.data.toList.length := by cases s; rfl
theorem byte_at (s : ByteArray) (k : Nat) (h : k < s.size) : s.data.toList[k]? = some (s[k]'h) := by
  have h2 : k < s.data.toList.length := by rw [← size_list]; exact h
  rw [List.getElem?_eq_getElem h2]
  rfl
theorem byte_take (s : ByteArray) (k : Nat) (h : k < s.size) : s.data.toList.take (k + 1) = s.data.toList.take k ++ [s[k]'h] := by
  rw [List.take_add_one, byte_at s k h]; rfl
theorem u8_eq {c : UInt8} {n : Nat} (h : c.toNat = n) : c = UInt8.ofNat n := by subst h; exact (UInt8.ofNat_toNat).symm
theorem u8_iff (c : UInt8) (n : Nat) (hn : n < 256) : (((c.toNat : Nat) : Int) == (n : Int)) = (c == UInt8.ofNat n) := by
  by_cases h : c.toNat = n
  · have := u8_eq h
    rw [this] at h ⊢
    simp [h]
  · have h2 : c ≠ UInt8.ofNat n := fun e => h (by rw [e]; simp [Nat.mod_eq_of_lt hn])
    have h3 : ¬ ((c.toNat : Nat) : Int) = (n : Int) := by omega
    rw [beq_eq_false_iff_ne.2 h2, beq_eq_false_iff_ne.2 h3]
theorem all_in_1_40 (s : ByteArray) : within 1 40 (s.size : Int) = true ↔ 1 ≤ s.data.toList.length ∧ s.data.toList.length ≤ 40 := by
  rw [← size_list]; simp only [within, Bool.and_eq_true, decide_eq_true_eq]; omega
theorem lettersW_not {l : List UInt8} (h : ¬ (1 ≤ l.length ∧ l.length ≤ 40)) : lettersW l = false := by
  cases e : lettersW l
  · rfl
  · have := (lettersW_iff l).1 e
    exact (h ⟨this.1, this.2.1⟩).elim

set_option maxHeartbeats 1000000 in
theorem chLetters_any (s : ByteArray) (w : World) : Calls Tryz.prog 18 #[.string s] w fun e w' => e = .returned (.bool (lettersW s.data.toList)) ∧ w = w' := by
  by_cases hb : within 1 40 (s.size : Int) = true
  · have HB := hid hb
    have HL := hid ((all_in_1_40 s).1 hb)
    have hsz : s.size ≤ 40 := by have := HL.out.2; rw [size_list]; exact this
    clear hb
    go_enter Tryz.func18, Tryz.ntmps18
    go_wp2_with fail
    refine (l1In_as _ _ _ _ _ HB.out).mono ?_
    rintro e w' ⟨rfl, rfl⟩
    go_wp2_with fail
    go_loop [3] (fun i => ∃ k : Nat, k ≤ s.size ∧ i = .int .i64 k ∧ (s.data.toList.take k).all isAB = true) (fun i => s.size - (intOf i).toNat)
    case atStart => exact ⟨0, Nat.zero_le _, rfl, by simp⟩
    case round =>
      obtain ⟨k, hk, rfl, hall⟩ := hrel
      have HA := hid hall
      clear hall
      by_cases hlt : k < s.size
      · have HT := hid (byte_take s k hlt)
        have hltI : (k : Int) < (s.size : Int) := by omega
        have e97 := u8_iff (s[k]'hlt) 97 (by decide)
        have e98 := u8_iff (s[k]'hlt) 98 (by decide)
        by_cases h97 : (s[k]'hlt) = 97
        · have hb97 : (((s[k]'hlt).toNat : Int) != 97) = false := by rw [bne, show ((97 : Int)) = ((97 : Nat) : Int) from rfl, e97, h97]; rfl
          have HOK := hid (show isAB (s[k]'hlt) = true by rw [h97]; decide)
          clear e97 e98 h97
          go_wp2_with fail
          go_round
          case rel => exact ⟨k + 1, hlt, by go_num, by rw [HT.out, List.all_append, HA.out]; simp [HOK.out]⟩
          case measure => simp [intOf]; omega
        · have hb97 : (((s[k]'hlt).toNat : Int) != 97) = true := by rw [bne, show ((97 : Int)) = ((97 : Nat) : Int) from rfl, e97]; simp; exact h97
          by_cases h98 : (s[k]'hlt) = 98
          · have hb98 : (((s[k]'hlt).toNat : Int) != 98) = false := by rw [bne, show ((98 : Int)) = ((98 : Nat) : Int) from rfl, e98, h98]; rfl
            have HOK := hid (show isAB (s[k]'hlt) = true by rw [h98]; decide)
            clear e97 e98 h97 h98
            go_wp2_with fail
            go_round
            case rel => exact ⟨k + 1, hlt, by go_num, by rw [HT.out, List.all_append, HA.out]; simp [HOK.out]⟩
            case measure => simp [intOf]; omega
          · have hb98 : (((s[k]'hlt).toNat : Int) != 98) = true := by rw [bne, show ((98 : Int)) = ((98 : Nat) : Int) from rfl, e98]; simp; exact h98
            have HN := hid (show lettersW s.data.toList = false by
              cases e : lettersW s.data.toList
              · rfl
              · have h1 := ((lettersW_iff _).1 e).2.2
                rw [List.all_eq_true] at h1
                have h2 := (isAB_iff _).1 (h1 (s[k]'hlt) (List.mem_of_getElem? (byte_at s k hlt)))
                rcases h2 with h2 | h2
                · exact (h97 h2).elim
                · exact (h98 h2).elim)
            clear e97 e98 h97 h98
            go_wp2_with fail
            go_ret
            exact ⟨ret_bool HN.out.symm, rfl⟩
      · have HE := hid (show lettersW s.data.toList = true from (lettersW_iff _).2 ⟨HL.out.1, HL.out.2, by
          have := HA.out
          rwa [List.take_of_length_le (by rw [← size_list]; omega)] at this⟩)
        go_wp2_with fail
        go_ret
        exact ⟨ret_bool HE.out.symm, rfl⟩
  · have HN := hid (lettersW_not (fun h => hb ((all_in_1_40 s).2 h)))
    have HB := hid (show within 1 40 (s.size : Int) = false by simpa using hb)
    clear hb
    go_enter Tryz.func18, Tryz.ntmps18
    go_wp2_with fail
    refine (l1In_as _ _ _ _ _ HB.out).mono ?_
    rintro e w' ⟨rfl, rfl⟩
    go_wp2_with fail
    go_ret
    exact ⟨ret_bool HN.out.symm, rfl⟩
theorem chLetters_as (s : ByteArray) (b : Bool) (w : World) (h : lettersW s.data.toList = b) :
    Calls Tryz.prog 18 #[.string s] w fun e w' => e = .returned (.bool b) ∧ w = w' := by
  subst h; exact chLetters_any s w
end Go.Proofs.YtmmapfdmdliifaaGreatDoor
