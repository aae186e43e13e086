/- ChristoffelOf in the model; whether letters are a Christoffel word, in both. -/
import Derived.Test.YtmmapfdmdliifaaGreatDoorWdD
import Derived.Test.YtmmapfdmdliifaaGreatDoorWdI
namespace Go.Proofs.YtmmapfdmdliifaaGreatDoor
open Go.RowKit

theorem gcd_pos {a b : Nat} (h : gcdW (a : Int) (b : Int) = 1) : 1 ≤ a + b := by
  rcases Nat.eq_zero_or_pos (a + b) with h0 | h0
  · obtain rfl : a = 0 := by omega
    obtain rfl : b = 0 := by omega
    have := gcd_zero
    rw [show ((0 : Nat) : Int) = 0 from rfl, this] at h
    omega
  · exact h0
theorem foGcd_at (a b : Int) (w : World) (ha : Mid a) (hb : Mid b) : Calls Tryz.prog 49 #[.int .i64 a, .int .i64 b] w fun e w' => e = .returned (.int .i64 (gcdW a b)) ∧ w = w' :=
  foGcd_any (b.natAbs + 1) a b w (by omega) ha hb

/-- Two texts, as the walk compares them. -/
theorem toList_beq (a b : ByteArray) : (a.toList == b.toList) = decide (a.data.toList = b.data.toList) := by
  rw [Lib.toList_data, Lib.toList_data]
  by_cases h : a.data.toList = b.data.toList
  · rw [h]; simp
  · rw [beq_eq_false_iff_ne.2 h, decide_eq_false h]

set_option maxRecDepth 20000 in
set_option maxHeartbeats 2000000 in
theorem chGood_any (s : ByteArray) (w : World) (hs : s.size ≤ 40) : Calls Tryz.prog 27 #[.string s] w fun e w' => e = .returned (.bool (goodW s.data.toList)) ∧ Later w w' := by
  have HM := hid (fun w => chMany_any s w (by omega))
  have hle := cntB_le s.data.toList
  rw [← size_list] at hle
  have hgd : goodW s.data.toList = (decide (gcdW ((s.data.toList.length - cntB s.data.toList : Nat) : Int) (cntB s.data.toList : Int) = 1) && decide (chW (s.data.toList.length - cntB s.data.toList) (cntB s.data.toList) = s.data.toList)) := rfl
  rw [← size_list] at hgd
  obtain ⟨b, hb⟩ : ∃ b, cntB s.data.toList = b := ⟨_, rfl⟩
  rw [hb] at hgd HM hle
  obtain ⟨a, ha⟩ : ∃ a, s.size - b = a := ⟨_, rfl⟩
  rw [ha] at hgd
  have hsz : (s.size : Int) - (b : Int) = (a : Int) := by omega
  have hab : a + b ≤ 40 := by omega
  have HG := hid (fun w => foGcd_at (a : Int) (b : Int) w (mid40 (by omega)) (mid40 (by omega)))
  clear hb ha
  by_cases hg : gcdW (a : Int) (b : Int) = 1
  · have h1 := gcd_pos hg
    have HC := hid (fun w => chWord_any a b w h1 hab)
    obtain ⟨r, hr⟩ : ∃ r : ByteArray, (⟨(chW a b).toArray⟩ : ByteArray) = r := ⟨_, rfl⟩
    have hrl : r.data.toList = chW a b := by rw [← hr]
    have heq := toList_beq r s
    rw [hrl] at heq
    have HE := hid (show goodW s.data.toList = (r.toList == s.toList) by rw [hgd, heq, hg]; simp)
    rw [hr] at HC
    rw [hg] at HG
    clear hg hgd hr hrl heq h1 hle
    rw [HE.out]
    go_enter Tryz.func27, Tryz.ntmps27
    go_wp2_with fail
    refine (HM.out _).mono ?_
    rintro e w' ⟨rfl, rfl⟩
    go_wp2_with fail
    refine (HG.out _).mono ?_
    rintro e w1 ⟨rfl, rfl⟩
    go_wp2_with fail
    refine (HC.out _).mono ?_
    rintro e w2 ⟨rfl, hL⟩
    go_wp2_with fail
    go_ret
    exact ⟨rfl, hL⟩
  · have HE := hid (show goodW s.data.toList = false by rw [hgd]; simp [hg])
    have hgb : (gcdW (a : Int) (b : Int) == 1) = false := by simp [hg]
    obtain ⟨g, hgv⟩ : ∃ g, gcdW (a : Int) (b : Int) = g := ⟨_, rfl⟩
    rw [hgv] at HG hgb
    clear hg hgv hgd hle
    rw [HE.out]
    go_enter Tryz.func27, Tryz.ntmps27
    go_wp2_with fail
    refine (HM.out _).mono ?_
    rintro e w' ⟨rfl, rfl⟩
    go_wp2_with fail
    refine (HG.out _).mono ?_
    rintro e w1 ⟨rfl, rfl⟩
    go_wp2_with fail
    go_ret
    exact ⟨rfl, Later.refl _⟩
theorem chGood_as (s : ByteArray) (b : Bool) (w : World) (hs : s.size ≤ 40) (h : goodW s.data.toList = b) : Calls Tryz.prog 27 #[.string s] w fun e w' => e = .returned (.bool b) ∧ Later w w' := by
  subst h; exact chGood_any s w hs
theorem letters_le {s : ByteArray} (h : lettersW s.data.toList = true) : s.size ≤ 40 := by
  rw [size_list]; exact ((lettersW_iff _).1 h).2.1

def implGoodW (l : List UInt8) : Bool := lettersW l && goodW l
set_option maxRecDepth 20000 in
set_option maxHeartbeats 1000000 in
theorem implisChristoffel_any (s : ByteArray) (w : World) (hs : s.size ≤ 1048576) : Calls Tryz.prog 23 #[.string s] w fun e w' => e = .returned (.bool (implGoodW s.data.toList)) ∧ Later w w' := by
  have HCO := hid (fun w => implCountsOf_any s w hs)
  have HCH := hid (fun a b w => implChristoffelOf_any a b w)
  cases hb : lettersW s.data.toList
  · have HA := hid (show countsAns s.data.toList = none by unfold countsAns; rw [if_neg (by simp [hb])])
    have HN := hid (show chAns 0 0 = none by unfold chAns; rw [if_neg (fun h => by have := h.2.2.2.2; rw [gcd_zero] at this; omega)])
    have HE := hid (show implGoodW s.data.toList = false by unfold implGoodW; rw [hb]; rfl)
    rw [HA.out] at HCO
    rw [HE.out]
    clear hb
    go_enter Tryz.func23, Tryz.ntmps23
    go_wp2_with fail
    refine (HCO.out _).mono ?_
    rintro e w1 ⟨rfl, hL⟩
    have HL := hid hL
    clear hL
    go_wp2_with fail
    refine (HCH.out 0 0 _).mono ?_
    rintro e w2 ⟨rfl, hL⟩
    have HL2 := hid (HL.out.trans hL)
    rw [HN.out]
    clear hL
    go_wp2_with fail
    go_ret
    exact ⟨rfl, HL2.out⟩
  · have hl40 := letters_le hb
    have hl : s.data.toList.length ≤ 40 := by rw [← size_list]; exact hl40
    have HA := hid (show countsAns s.data.toList = some (((s.data.toList.length - cntB s.data.toList : Nat) : Int), (cntB s.data.toList : Int)) by unfold countsAns; rw [if_pos hb])
    have hE : implGoodW s.data.toList = goodW s.data.toList := by unfold implGoodW; rw [hb]; rfl
    have hG := goodW_ans hl
    obtain ⟨a, ha⟩ : ∃ a, ((s.data.toList.length - cntB s.data.toList : Nat) : Int) = a := ⟨_, rfl⟩
    obtain ⟨b, hbb⟩ : ∃ b, (cntB s.data.toList : Int) = b := ⟨_, rfl⟩
    rw [ha, hbb] at HA hG
    rw [HA.out] at HCO
    clear ha hbb hb
    rw [hE, hG]
    cases hc : chAns a b with
    | none =>
      have HN := hid hc
      clear hc hG hE
      go_enter Tryz.func23, Tryz.ntmps23
      go_wp2_with fail
      refine (HCO.out _).mono ?_
      rintro e w1 ⟨rfl, hL⟩
      have HL := hid hL
      clear hL
      go_wp2_with fail
      refine (HCH.out a b _).mono ?_
      rintro e w2 ⟨rfl, hL⟩
      have HL2 := hid (HL.out.trans hL)
      rw [HN.out]
      clear hL
      go_wp2_with fail
      go_ret
      exact ⟨by simp, HL2.out⟩
    | some q =>
      have HN := hid hc
      clear hc hG hE
      obtain ⟨r, hr⟩ : ∃ r : ByteArray, (⟨q.toArray⟩ : ByteArray) = r := ⟨_, rfl⟩
      have hrl : r.data.toList = q := by rw [← hr]
      have heq := toList_beq r s
      rw [hrl] at heq
      have HE := hid (show decide ((some q : Option (List UInt8)) = some s.data.toList) = (r.toList == s.toList) by rw [heq]; simp)
      rw [HE.out]
      have HR := hid hr
      clear hr hrl heq
      go_enter Tryz.func23, Tryz.ntmps23
      go_wp2_with fail
      refine (HCO.out _).mono ?_
      rintro e w1 ⟨rfl, hL⟩
      have HL := hid hL
      clear hL
      go_wp2_with fail
      refine (HCH.out a b _).mono ?_
      rintro e w2 ⟨rfl, hL⟩
      have HL2 := hid (HL.out.trans hL)
      rw [HN.out]
      rw [show (⟨((some q : Option (List UInt8)).getD []).toArray⟩ : ByteArray) = r from HR.out]
      clear hL
      go_wp2_with fail
      go_ret
      exact ⟨rfl, HL2.out⟩
theorem implisChristoffel_as (s : ByteArray) (b : Bool) (w : World) (hs : s.size ≤ 1048576) (h : implGoodW s.data.toList = b) : Calls Tryz.prog 23 #[.string s] w fun e w' => e = .returned (.bool b) ∧ Later w w' := by
  subst h; exact implisChristoffel_any s w hs

end Go.Proofs.YtmmapfdmdliifaaGreatDoor
