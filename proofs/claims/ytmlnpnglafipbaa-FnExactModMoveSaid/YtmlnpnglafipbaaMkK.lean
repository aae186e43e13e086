/- Contracts of ModMove. -/
import Derived.Test.YtmlnpnglafipbaaMkJ
import Derived.Test.YtmlnpnglafipbaaMkP
namespace Go.Proofs.Ytmlnpnglafipbaa
open Go.RowKit

def modMoveAns (p : Int) (zs : List Int) (i : Int) : Option (List Int) := if modOk p zs = true ∧ (0 ≤ i ∧ i ≤ 2) then some (modL p (zs.getD 0 0) (zs.getD 1 0) (zs.getD 2 0) i.toNat) else none
theorem modMoveAns_no {p : Int} {zs : List Int} {i : Int} (h : ¬ (modOk p zs = true ∧ (0 ≤ i ∧ i ≤ 2))) : modMoveAns p zs i = none := by unfold modMoveAns; rw [if_neg h]
theorem modMoveAns_yes {p x y z : Int} {i : Nat} (hg : modOk p [x, y, z] = true) (hi : i ≤ 2) : modMoveAns p [x, y, z] i = some (modL p x y z i) := by
  unfold modMoveAns; rw [if_pos ⟨hg, by omega, by omega⟩]; rfl
theorem Sm.cnt0 {x : Int} (h : Sm x) : Cnt0 x := ⟨h.1, by have := h.2; omega⟩
theorem modOk_three {p : Int} {zs : List Int} (h : modOk p zs = true) : ∃ x y z, zs = [x, y, z] ∧ prime13 p = true ∧ (2 ≤ p ∧ p ≤ 13) ∧ modGood p zs = true ∧ Sm x ∧ Sm y ∧ Sm z := by
  unfold modOk at h
  rw [Bool.and_eq_true] at h
  have hg := h.2
  have h3 : zs.length = 3 := by simp only [modGood, Bool.and_eq_true, decide_eq_true_eq] at hg; exact hg.1.1
  match zs, h3 with
  | [x, y, z], _ =>
    have hp := prime13_in h.1
    rw [modGood3, Bool.and_eq_true] at hg
    have hw := hg.1
    simp [within] at hw
    exact ⟨x, y, z, rfl, h.1, hp, h.2, ⟨by omega, by omega⟩, ⟨by omega, by omega⟩, ⟨by omega, by omega⟩⟩

set_option maxHeartbeats 1000000 in
theorem specModMove_any (p : Int) (v : Value) (zs : List Int) (i : Int) (w : World) (h : Ints w v zs) :
    Calls Try.prog 38 #[.int .i64 p, v, .int .i64 i] w fun e w' => IntsAns w (modMoveAns p zs i) e w' := by
  cases hp : prime13 p
  · have HA := hid (modMoveAns_no (p := p) (zs := zs) (i := i) (by unfold modOk; rw [hp]; simp))
    have HP := hid hp
    obtain ⟨a, cap, rfl, hl, _⟩ := id h
    clear hp h
    go_enter Try.func38, Try.ntmps38
    go_wp2_with fail
    refine (mkPrime_as p false _ HP.out).mono ?_
    rintro e w1 ⟨rfl, hL⟩
    have HL := hid hL
    clear hL
    go_wp2_with fail
    go_ret2
    rw [HA.out]
    exact ⟨_, rfl, OwnInts.nothing _ _ _, HL.out⟩
  · have HP := hid hp
    have hpp := prime13_in hp
    cases hg : modGood p zs
    · have HA := hid (modMoveAns_no (p := p) (zs := zs) (i := i) (by unfold modOk; rw [hg]; simp))
      have HG := hid hg
      have H := hid h
      obtain ⟨a, cap, rfl, hl, _⟩ := id h
      clear hp h hg
      go_enter Try.func38, Try.ntmps38
      go_wp2_with fail
      refine (mkPrime_as p true _ HP.out).mono ?_
      rintro e w1 ⟨rfl, hL⟩
      have HL := hid hL
      clear hL
      go_wp2_with fail
      refine (mkMod_as p _ zs false _ hpp HG.out (H.out.later HL.out)).mono ?_
      rintro e w2 ⟨rfl, hq⟩
      have HL2 := hid (HL.out.trans hq.later)
      clear hq
      go_wp2_with fail
      go_ret2
      rw [HA.out]
      exact ⟨_, rfl, OwnInts.nothing _ _ _, HL2.out⟩
    · obtain ⟨x, y, z, rfl, _, _, _, hx, hy, hz⟩ := modOk_three (p := p) (zs := zs) (by unfold modOk; rw [hp, hg]; rfl)
      obtain ⟨x', y', z', ad, cap, e1, rfl, c0, c1, c2⟩ := h.three rfl
      simp only [List.cons.injEq, and_true] at e1
      obtain ⟨rfl, rfl, rfl⟩ := e1
      have HG := hid hg
      have H := hid h
      have HOK := hid (show modOk p [x, y, z] = true by unfold modOk; rw [hp, hg]; rfl)
      clear hg h hp c0 c1 c2
      by_cases hi : 0 ≤ i ∧ i ≤ 2
      · obtain ⟨j, rfl⟩ : ∃ j : Nat, i = (j : Int) := ⟨i.toNat, by omega⟩
        have HA := hid (modMoveAns_yes HOK.out (show j ≤ 2 by omega))
        have HW := hid (show within 0 2 (j : Int) = true by simp [within]; omega)
        have hj : j = 0 ∨ j = 1 ∨ j = 2 := by omega
        clear hi
        go_enter Try.func38, Try.ntmps38
        go_wp2_with fail
        refine (mkPrime_as p true _ HP.out).mono ?_
        rintro e w1 ⟨rfl, hL⟩
        have HL := hid hL
        clear hL
        go_wp2_with fail
        refine (mkMod_as p (.slice (some ad) 3 cap) [x, y, z] true _ hpp HG.out (H.out.later HL.out)).mono ?_
        rintro e w2 ⟨rfl, hq⟩
        have HL2 := hid (HL.out.trans hq.later)
        clear hq
        go_wp2_with fail
        refine (l1In_as _ 0 2 true _ HW.out).mono ?_
        rintro e w' ⟨rfl, rfl⟩
        go_wp2_with fail
        refine (mkModMove_any x y z p j hj ad cap _ hx.cnt0 hy.cnt0 hz.cnt0 ⟨by omega, by omega⟩ (H.out.later HL2.out)).mono ?_
        rintro e w3 ⟨v3, rfl, ho, hL⟩
        have HO := hid (ho.wide HL2.out.size (Nat.le_refl _))
        have HL3 := hid (HL2.out.trans hL)
        clear ho hL hj
        go_wp2_with fail
        go_ret2
        rw [HA.out]
        exact ⟨_, rfl, HO.out, HL3.out⟩
      · have HA := hid (modMoveAns_no (p := p) (zs := [x, y, z]) (i := i) (fun h => hi h.2))
        have HW := hid (show within 0 2 i = false by simp only [within, Bool.and_eq_false_iff, decide_eq_false_iff_not]; omega)
        clear hi
        go_enter Try.func38, Try.ntmps38
        go_wp2_with fail
        refine (mkPrime_as p true _ HP.out).mono ?_
        rintro e w1 ⟨rfl, hL⟩
        have HL := hid hL
        clear hL
        go_wp2_with fail
        refine (mkMod_as p (.slice (some ad) 3 cap) [x, y, z] true _ hpp HG.out (H.out.later HL.out)).mono ?_
        rintro e w2 ⟨rfl, hq⟩
        have HL2 := hid (HL.out.trans hq.later)
        clear hq
        go_wp2_with fail
        refine (l1In_as _ 0 2 false _ HW.out).mono ?_
        rintro e w' ⟨rfl, rfl⟩
        go_wp2_with fail
        go_ret2
        rw [HA.out]
        exact ⟨_, rfl, OwnInts.nothing _ _ _, HL2.out⟩

set_option maxRecDepth 20000 in
set_option maxHeartbeats 1000000 in
theorem implModMove_any (p : Int) (v : Value) (zs : List Int) (i : Int) (w : World) (h64 : I64 p) (h : Ints w v zs) :
    Calls Try.prog 39 #[.int .i64 p, v, .int .i64 i] w fun e w' => IntsAns w (modMoveAns p zs i) e w' := by
  cases hg : modOk p zs
  · have HA := hid (modMoveAns_no (p := p) (zs := zs) (i := i) (by rw [hg]; simp))
    have HG := hid hg
    have H := hid h
    obtain ⟨a, cap, rfl, hl, _⟩ := id h
    clear hg h
    go_enter Try.func39, Try.ntmps39
    go_wp2_with fail
    refine (isModTriple_any p _ zs _ h64 H.out).mono ?_
    rintro e w1 ⟨rfl, hL⟩
    rw [HG.out]
    have HL := hid hL
    clear hL
    go_wp2_with fail
    go_ret2
    rw [HA.out]
    exact ⟨_, rfl, OwnInts.nothing _ _ _, HL.out⟩
  · obtain ⟨x, y, z, rfl, _, hpp, _, hx, hy, hz⟩ := modOk_three hg
    obtain ⟨x', y', z', ad, cap, e1, rfl, c0, c1, c2⟩ := h.three rfl
    simp only [List.cons.injEq, and_true] at e1
    obtain ⟨rfl, rfl, rfl⟩ := e1
    have HG := hid hg
    have H := hid h
    have ha := arrayAt3 ad cap
    by_cases hi : 0 ≤ i ∧ i ≤ 2
    · obtain ⟨j, rfl⟩ : ∃ j : Nat, i = (j : Int) := ⟨i.toNat, by omega⟩
      have HA := hid (modMoveAns_yes hg (show j ≤ 2 by omega))
      have HW := hid (show within 0 2 (j : Int) = true by simp [within]; omega)
      have hj : j = 0 ∨ j = 1 ∨ j = 2 := by omega
      clear hg h hi
      go_enter Try.func39, Try.ntmps39
      go_wp2_with fail
      refine (isModTriple_any p (.slice (some ad) 3 cap) [x, y, z] _ h64 H.out).mono ?_
      rintro e w1 ⟨rfl, hL⟩
      rw [HG.out]
      replace c0 := hL.cell c0
      replace c1 := hL.cell c1
      replace c2 := hL.cell c2
      have HL := hid hL
      clear hL
      go_wp2_with fail
      refine (isTripleIndex_as _ true _ HW.out).mono ?_
      rintro e w' ⟨rfl, rfl⟩
      go_wp2_with fail
      refine (movedModulo_any x y z p j hj _ hx.cnt0 hy.cnt0 hz.cnt0 ⟨by omega, by omega⟩).mono ?_
      rintro e w4 ⟨a, b, c, habc, rfl, hL⟩
      have HP := hid habc
      have HL4 := hid (HL.out.trans hL)
      clear hL c0 c1 c2 habc hj
      go_wp2_with fail
      refine (list_any a b c _).mono ?_
      rintro e w7 ⟨v7, rfl, ho, hL⟩
      have HO7 := hid (ho.wide HL4.out.size (Nat.le_refl _))
      have HL7 := hid (HL4.out.trans hL)
      clear hL ho
      go_wp2_with fail
      go_ret2
      rw [HA.out]
      refine ⟨_, rfl, ?_, HL7.out⟩
      rw [Option.getD_some, HP.out]
      exact HO7.out
    · have HA := hid (modMoveAns_no (p := p) (zs := [x, y, z]) (i := i) (fun h => hi h.2))
      have HW := hid (show within 0 2 i = false by simp only [within, Bool.and_eq_false_iff, decide_eq_false_iff_not]; omega)
      clear hg h hi
      go_enter Try.func39, Try.ntmps39
      go_wp2_with fail
      refine (isModTriple_any p (.slice (some ad) 3 cap) [x, y, z] _ h64 H.out).mono ?_
      rintro e w1 ⟨rfl, hL⟩
      rw [HG.out]
      have HL := hid hL
      clear hL
      go_wp2_with fail
      refine (isTripleIndex_as _ false _ HW.out).mono ?_
      rintro e w' ⟨rfl, rfl⟩
      go_wp2_with fail
      go_ret2
      rw [HA.out]
      exact ⟨_, rfl, OwnInts.nothing _ _ _, HL.out⟩
end Go.Proofs.Ytmlnpnglafipbaa
