/- The cut of a Christoffel word, and its centre, in both. -/
import Derived.Test.YtmmapfdmdliifaaGreatDoorWdE
import Derived.Test.YtmmapfdmdliifaaGreatDoorLayClone
import Derived.WalkSpells
namespace Go.Proofs.YtmmapfdmdliifaaGreatDoor
open Go.RowKit

theorem ext_list (s : ByteArray) (a b : Nat) : (s.extract a b).data.toList = (s.data.toList.take b).drop a := by
  rw [ByteArray.data_extract, Array.toList_extract, List.extract_eq_take_drop, List.drop_take]
theorem pre_eq (s : ByteArray) (k : Nat) : s.extract 0 k = ⟨(s.data.toList.take k).toArray⟩ := by
  apply ByteArray.ext
  apply Array.toList_inj.1
  rw [ext_list]; simp
theorem suf_eq (s : ByteArray) (k : Nat) : s.extract k s.size = ⟨(s.data.toList.drop k).toArray⟩ := by
  apply ByteArray.ext
  apply Array.toList_inj.1
  rw [ext_list, List.take_of_length_le (by rw [size_list]; exact Nat.le_refl _)]
theorem pre_list (s : ByteArray) (k : Nat) : (s.extract 0 k).data.toList = s.data.toList.take k := by rw [ext_list]; simp
theorem suf_list (s : ByteArray) (k : Nat) : (s.extract k s.size).data.toList = s.data.toList.drop k := by
  rw [ext_list, List.take_of_length_le (by rw [size_list]; exact Nat.le_refl _)]
theorem pre_size (s : ByteArray) (k : Nat) (h : k ≤ s.size) : (s.extract 0 k).size = k := by rw [size_list, pre_list, List.length_take, ← size_list]; omega
theorem suf_size (s : ByteArray) (k : Nat) : (s.extract k s.size).size = s.size - k := by rw [size_list, suf_list, List.length_drop, ← size_list]

theorem isTwoW_iff (l : List UInt8) : isTwoW l = true ↔ lettersW l = true ∧ 1 < l.length ∧ goodW l = true := by simp [isTwoW, and_assoc]
set_option maxHeartbeats 1000000 in
theorem chTwo_any (s : ByteArray) (w : World) : Calls Tryz.prog 16 #[.string s] w fun e w' => e = .returned (.bool (isTwoW s.data.toList)) ∧ Later w w' := by
  have HC := hid (fun b hb => chLetters_as s b w hb)
  cases hb : lettersW s.data.toList
  · have HE := hid (show isTwoW s.data.toList = false by unfold isTwoW; rw [hb]; rfl)
    have HB := hid hb
    rw [HE.out]
    clear hb
    go_enter Tryz.func16, Tryz.ntmps16
    go_wp2_with fail
    refine (HC.out false HB.out).mono ?_
    rintro e w' ⟨rfl, rfl⟩
    go_wp2_with fail
    go_ret
    exact ⟨rfl, Later.refl _⟩
  · have HG := hid (fun b w hb2 => chGood_as s b w (letters_le hb) hb2)
    have HB := hid hb
    by_cases h1 : (1 : Int) < (s.size : Int)
    · have hE : isTwoW s.data.toList = goodW s.data.toList := by unfold isTwoW; rw [hb, ← size_list, decide_eq_true (show 1 < s.size by omega)]; rfl
      obtain ⟨g, hg⟩ : ∃ g, goodW s.data.toList = g := ⟨_, rfl⟩
      have HGE := hid hg
      rw [hE, hg]
      clear hb hE hg
      go_enter Tryz.func16, Tryz.ntmps16
      go_wp2_with fail
      refine (HC.out true HB.out).mono ?_
      rintro e w' ⟨rfl, rfl⟩
      go_wp2_with fail
      refine (HG.out g _ HGE.out).mono ?_
      rintro e w1 ⟨rfl, hL⟩
      go_wp2_with fail
      go_ret
      exact ⟨rfl, hL⟩
    · have HE := hid (show isTwoW s.data.toList = false by unfold isTwoW; rw [hb, ← size_list, decide_eq_false (show ¬ 1 < s.size by omega)]; rfl)
      have hd1 : decide ((1 : Int) < (s.size : Int)) = false := decide_eq_false h1
      rw [HE.out]
      clear hb
      go_enter Tryz.func16, Tryz.ntmps16
      go_wp2_with fail
      refine (HC.out true HB.out).mono ?_
      rintro e w' ⟨rfl, rfl⟩
      go_wp2_with fail
      go_ret
      exact ⟨rfl, Later.refl _⟩
theorem chTwo_as (s : ByteArray) (b : Bool) (w : World) (h : isTwoW s.data.toList = b) : Calls Tryz.prog 16 #[.string s] w fun e w' => e = .returned (.bool b) ∧ Later w w' := by
  subst h; exact chTwo_any s w

set_option maxRecDepth 20000 in
set_option maxHeartbeats 2000000 in
theorem chSplit_any (s : ByteArray) (w : World) (h : isTwoW s.data.toList = true) : Calls Tryz.prog 17 #[.string s] w fun e w' => e = .returned (.int .i64 (splitW s.data.toList : Nat)) ∧ Later w w' := by
  obtain ⟨hl, h2, hg⟩ := (isTwoW_iff _).1 h
  have hl40 := ((lettersW_iff _).1 hl).2.1
  have HX := hid (fun hn => cut_ex hl40 (by omega) hg hn)
  obtain ⟨m, hm⟩ : ∃ m, splitW s.data.toList = m := ⟨_, rfl⟩
  have HSP := hid (fun k h3 h4 h5 h6 => hm.symm.trans (splitW_at s.data.toList k h3 h4 h5 h6))
  rw [hm]
  rw [← size_list] at h2 hl40 HX HSP
  have HGP := hid (fun k b w (hk : k ≤ s.size) (hb : goodW (s.data.toList.take k) = b) => chGood_as (s.extract 0 k) b w (by rw [pre_size s k hk]; omega) (by rw [pre_list]; exact hb))
  have HGS := hid (fun k b w (hb : goodW (s.data.toList.drop k) = b) => chGood_as (s.extract k s.size) b w (by rw [suf_size s k]; omega) (by rw [suf_list]; exact hb))
  clear hl hg h hm
  go_enter Tryz.func17, Tryz.ntmps17
  go_wp2_with fail
  go_loopw [3] (fun i wr => ∃ k : Nat, 1 ≤ k ∧ k ≤ s.size ∧ i = .int .i64 k ∧ (∀ j, 1 ≤ j → j < k → cutAt s.data.toList j = false) ∧ Later w wr) (fun i _ => s.size - (intOf i).toNat)
  case atStart => exact ⟨1, Nat.le_refl _, by omega, rfl, fun j h3 h4 => by omega, Later.refl _⟩
  case round =>
    obtain ⟨k, hk1, hk, rfl, hn, hL⟩ := hrel
    have HN := hid hn
    have HLr := hid hL
    clear hn hL
    by_cases hlt : k < s.size
    · have hltI : (k : Int) < (s.size : Int) := by omega
      have hleI : (k : Int) ≤ (s.size : Int) := by omega
      cases hb1 : goodW (s.data.toList.take k)
      · have HB1 := hid hb1
        have HNC := hid (show cutAt s.data.toList k = false by unfold cutAt; rw [hb1]; rfl)
        clear hb1
        go_wp2_with fail
        refine (HGP.out k false _ hk HB1.out).mono ?_
        rintro e w1 ⟨rfl, hL⟩
        have HL1 := hid (HLr.out.trans hL)
        clear hL
        go_wp2_with fail
        go_roundw
        case rel => exact ⟨k + 1, by omega, hlt, by go_num, fun j h3 h4 => by
            by_cases e : j = k
            · subst e; exact HNC.out
            · exact HN.out j h3 (by omega), HL1.out⟩
        case measure => simp [intOf]; omega
      · have HB1 := hid hb1
        cases hb2 : goodW (s.data.toList.drop k)
        · have HB2 := hid hb2
          have HNC := hid (show cutAt s.data.toList k = false by unfold cutAt; rw [hb1, hb2]; rfl)
          clear hb1 hb2
          go_wp2_with fail
          refine (HGP.out k true _ hk HB1.out).mono ?_
          rintro e w1 ⟨rfl, hL⟩
          have HL1 := hid (HLr.out.trans hL)
          clear hL
          go_wp2_with fail
          refine (HGS.out k false _ HB2.out).mono ?_
          rintro e w2 ⟨rfl, hL⟩
          have HL2 := hid (HL1.out.trans hL)
          clear hL
          go_wp2_with fail
          go_roundw
          case rel => exact ⟨k + 1, by omega, hlt, by go_num, fun j h3 h4 => by
              by_cases e : j = k
              · subst e; exact HNC.out
              · exact HN.out j h3 (by omega), HL2.out⟩
          case measure => simp [intOf]; omega
        · have HB2 := hid hb2
          have HE := hid (HSP.out k hk1 hlt HN.out (by unfold cutAt; rw [hb1, hb2]; rfl))
          clear hb1 hb2
          go_wp2_with fail
          refine (HGP.out k true _ hk HB1.out).mono ?_
          rintro e w1 ⟨rfl, hL⟩
          have HL1 := hid (HLr.out.trans hL)
          clear hL
          go_wp2_with fail
          refine (HGS.out k true _ HB2.out).mono ?_
          rintro e w2 ⟨rfl, hL⟩
          have HL2 := hid (HL1.out.trans hL)
          clear hL
          go_wp2_with fail
          go_ret
          exact ⟨ret_int (by rw [HE.out]), HL2.out⟩
    · exact (HX.out (fun j h3 h4 => HN.out j h3 (by omega))).elim
end Go.Proofs.YtmmapfdmdliifaaGreatDoor
