/- TurnsOf in the model; the least turn in both. -/
import Derived.Test.YtmmapfdmdliifaaDoorTnS
namespace Go.Proofs.YtmmapfdmdliifaaDoor
open Go.RowKit

set_option maxHeartbeats 1000000 in
theorem specTurnsOf_any (s : ByteArray) (w : World) (_hs : s.size ≤ 1048576) : Calls Tryd.prog 23 #[.string s] w fun e w' => StrsAns w (turnsAns s.data.toList) e w' := by
  have HC := hid (fun b w hb => chLetters_as s b w hb)
  cases hb : lettersW s.data.toList
  · have HA := hid (show turnsAns s.data.toList = none by unfold turnsAns; rw [if_neg (by simp [hb])])
    have HB := hid hb
    rw [HA.out]
    clear hb
    go_enter Tryd.func23, Tryd.ntmps23
    go_wp2_with fail
    refine (HC.out false _ HB.out).mono ?_
    rintro e w1 ⟨rfl, rfl⟩
    go_wp2_with fail
    go_ret2
    exact ⟨_, rfl, OwnStrs.nil _ _ _, Later.refl _⟩
  · have HA := hid (show turnsAns s.data.toList = some (turnsW s.data.toList) by unfold turnsAns; rw [if_pos hb])
    obtain ⟨_, h2, _⟩ := (lettersW_iff _).1 hb
    rw [← size_list] at h2
    have HT := hid (fun w => chTurns_any s w h2)
    have HB := hid hb
    rw [HA.out]
    clear hb
    go_enter Tryd.func23, Tryd.ntmps23
    go_wp2_with fail
    refine (HC.out true _ HB.out).mono ?_
    rintro e w1 ⟨rfl, rfl⟩
    go_wp2_with fail
    refine (HT.out _).mono ?_
    rintro e w2 ⟨v, rfl, ho, hL⟩
    obtain ⟨a, c, rfl, _⟩ := ho.shape
    have HO := hid ho
    have HL := hid hL
    clear ho hL
    go_wp2_with fail
    go_ret2
    exact ⟨_, rfl, HO.out, HL.out⟩
theorem first_turn {lo hi : Nat} {w : World} {a : Option Addr} {c : Nat} {L : List (List UInt8)} (h : OwnStrs lo hi w (.slice a L.length c) L) (hl : 0 < L.length) :
    ∃ (g : Nat) (t : ByteArray), a = some ⟨g, 0, none⟩ ∧ w.cell? ⟨g, 0, none⟩ = some (.string t) ∧ (⟨(L.getD 0 []).toArray⟩ : ByteArray) = t := by
  obtain ⟨g, rfl⟩ := strs_some h hl
  have := strs_cell h.strs 0 (L.getD 0 []) (by rw [List.getD_eq_getElem?_getD, List.getElem?_eq_getElem hl]; rfl)
  exact ⟨g, _, rfl, this, rfl⟩
set_option maxHeartbeats 1000000 in
theorem specLeastTurn_any (s : ByteArray) (w : World) (_hs : s.size ≤ 1048576) : Calls Tryd.prog 28 #[.string s] w fun e w' => StrAns w (leastAns s.data.toList) e w' := by
  have HC := hid (fun b w hb => chLetters_as s b w hb)
  cases hb : lettersW s.data.toList
  · have HA := hid (show leastAns s.data.toList = none by unfold leastAns; rw [if_neg (by simp [hb])])
    have HB := hid hb
    rw [HA.out]
    clear hb
    go_enter Tryd.func28, Tryd.ntmps28
    go_wp2_with fail
    refine (HC.out false _ HB.out).mono ?_
    rintro e w1 ⟨rfl, rfl⟩
    go_wp2_with fail
    go_ret2
    exact ⟨rfl, Later.refl _⟩
  · have HA := hid (show leastAns s.data.toList = some ((turnsW s.data.toList).getD 0 []) by unfold leastAns; rw [if_pos hb])
    obtain ⟨h1, h2, _⟩ := (lettersW_iff _).1 hb
    have hpos := turnsW_pos h1
    rw [← size_list] at h2
    have HT := hid (fun w => chTurns_any s w h2)
    have HB := hid hb
    rw [HA.out]
    obtain ⟨L, hL⟩ : ∃ L, turnsW s.data.toList = L := ⟨_, rfl⟩
    rw [hL] at HT hpos ⊢
    clear hb hL
    go_enter Tryd.func28, Tryd.ntmps28
    go_wp2_with fail
    refine (HC.out true _ HB.out).mono ?_
    rintro e w1 ⟨rfl, rfl⟩
    go_wp2_with fail
    refine (HT.out _).mono ?_
    rintro e w2 ⟨v, rfl, ho, hL⟩
    obtain ⟨a, c, rfl, _⟩ := ho.shape
    obtain ⟨g, t, rfl, hc, hte⟩ := first_turn ho hpos
    have HTE := hid hte
    have HL := hid hL
    have hposI : (0 : Int) < (L.length : Int) := by omega
    clear ho hL hte
    go_wp2_with fail
    go_ret2
    exact ⟨by rw [← HTE.out]; rfl, HL.out⟩
set_option maxHeartbeats 1000000 in
theorem implLeastTurn_any (s : ByteArray) (w : World) (hs : s.size ≤ 1048576) : Calls Tryd.prog 29 #[.string s] w fun e w' => StrAns w (leastAns s.data.toList) e w' := by
  have HT := hid (fun w => implTurnsOf_any s w hs)
  cases hb : lettersW s.data.toList
  · have HA := hid (show leastAns s.data.toList = none by unfold leastAns; rw [if_neg (by simp [hb])])
    have HN := hid (show turnsAns s.data.toList = none by unfold turnsAns; rw [if_neg (by simp [hb])])
    rw [HN.out] at HT
    rw [HA.out]
    clear hb
    go_enter Tryd.func29, Tryd.ntmps29
    go_wp2_with fail
    refine (HT.out _).mono ?_
    rintro e w1 ⟨v, rfl, ho, hL⟩
    obtain ⟨a, c, rfl, _⟩ := ho.shape
    have HL := hid hL
    clear ho hL
    go_wp2_with fail
    go_ret2
    exact ⟨rfl, HL.out⟩
  · have HA := hid (show leastAns s.data.toList = some ((turnsW s.data.toList).getD 0 []) by unfold leastAns; rw [if_pos hb])
    have HN := hid (show turnsAns s.data.toList = some (turnsW s.data.toList) by unfold turnsAns; rw [if_pos hb])
    have hpos := turnsW_pos ((lettersW_iff _).1 hb).1
    rw [HN.out] at HT
    rw [HA.out]
    obtain ⟨L, hL⟩ : ∃ L, turnsW s.data.toList = L := ⟨_, rfl⟩
    rw [hL] at HT hpos ⊢
    clear hb hL
    go_enter Tryd.func29, Tryd.ntmps29
    go_wp2_with fail
    refine (HT.out _).mono ?_
    rintro e w1 ⟨v, rfl, ho, hL⟩
    replace ho : OwnStrs w.heap.size w1.heap.size w1 v L := ho
    obtain ⟨a, c, rfl, _⟩ := ho.shape
    obtain ⟨g, t, rfl, hc, hte⟩ := first_turn ho hpos
    have HTE := hid hte
    have HL := hid hL
    have hposI : (0 : Int) < (L.length : Int) := by omega
    clear ho hL hte
    go_wp2_with fail
    go_ret2
    exact ⟨by rw [← HTE.out]; rfl, HL.out⟩
end Go.Proofs.YtmmapfdmdliifaaDoor
