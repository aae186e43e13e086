/- Ways of pairs in the program: DescendPair, AscendPair; the equation of whole quotients; QuotientRun, QuotientPairs. -/
import Derived.Test.YthejafejmbpepaaJpH
import Derived.Test.YthejafejmbpepaaJpM
import Derived.Test.YthejafejmbpepaaJuS
namespace Go.Proofs.Ythejafejmbpepaa
open Go.RowKit

theorem pairOk_yesQ {k c x y : Int} (h : juB x y k c = true) : pairOk (prodS k c) x y = some (x, y) := by rw [pairOk_prod, if_pos h]
theorem pairOk_noQ {k c x y : Int} (h : juB x y k c = false) : pairOk (prodS k c) x y = none := by rw [pairOk_prod, if_neg (by rw [h]; simp)]
theorem juB_WQ {x y k c : Int} (h : juB x y k c = true) : juW k c = true := by unfold juB at h; simp only [Bool.and_eq_true] at h; exact h.1
set_option maxRecDepth 20000 in
set_option maxHeartbeats 1000000 in
theorem implDescendPair_any (x y k c : Int) (w : World) :
    Calls Try.prog 22 #[.int .i64 x, .int .i64 y, .int .i64 k, .int .i64 c] w fun e w' => RowsAns w (descAns x y k c) e w' := by
  obtain ⟨o, ho⟩ : ∃ o, descAns x y k c = o := ⟨_, rfl⟩
  rw [ho]
  have HC : Hid (∀ w0, Calls Try.prog 61 #[.iface 57 (.agg #[.int .i64 k, .int .i64 c]), .int .i64 x, .int .i64 y] w0 fun e w' => RowsAns w0 o e w') := hid (fun w0 => by
    rw [← ho]
    unfold descAns
    cases hB : juB x y k c
    · exact descentFrom_no (prodEqS k c) x y w0 (pairOk_noQ hB)
    · exact descentFrom_yes (prodEq k c (juB_WQ hB)) x y w0 (pairOk_yesQ hB))
  clear ho
  go_enter Try.func22, Try.ntmps22
  go_wp2_with fail
  refine (HC.out _).mono ?_
  rintro e w1 ⟨v1, rfl, ho, hL⟩
  have HO := hid ho
  have HL := hid hL
  obtain ⟨a1, c1, rfl, _⟩ := ho.shape
  clear hL ho
  go_wp2_with fail
  go_ret2
  exact ⟨_, rfl, HO.out, HL.out⟩
set_option maxRecDepth 20000 in
set_option maxHeartbeats 2000000 in
theorem implAscendPair_any (x y k c s : Int) (w : World) :
    Calls Try.prog 27 #[.int .i64 x, .int .i64 y, .int .i64 k, .int .i64 c, .int .i64 s] w fun e w' => RowsAns w (ascAns x y k c s) e w' := by
  have HP := hid (fun w0 => pairOf_any (prodEqS k c) x y w0)
  have HL := hid (Later.alloc w (.cells #[.int .i64 k, .int .i64 c] 57))
  have HB := hid (JBox.new w k c 57)
  cases hB : juB x y k c
  · have HA := hid (show ascAns x y k c s = none from ascAns_no (by unfold ascOk; rw [hB]; rfl))
    rw [pairOk_noQ hB] at HP
    rw [HA.out]
    clear hB HA
    go_enter Try.func27, Try.ntmps27
    go_wp2_with fail
    generalize w.alloc (.cells #[.int .i64 k, .int .i64 c] 57) = w1 at HL HB ⊢
    refine (HP.out _).mono ?_
    rintro e w2 ⟨rfl, hL2⟩
    have HL3 := hid (HL.out.trans (hL2.trans (Later.alloc w2 (.cells #[.int .i64 0, .int .i64 0] 61))))
    clear hL2
    unfold jpA
    simp only [Option.getD_none, Option.isSome_none]
    go_wp2_with fail
    go_ret2
    exact ⟨_, rfl, OwnRows.noneH _ _ _, HL3.out⟩
  · have HN := hid (pairOk_N (pairOk_yesQ hB)).2
    rw [pairOk_yesQ hB] at HP
    by_cases hs0 : s < 0
    · have HA := hid (show ascAns x y k c s = none from ascAns_no (by unfold ascOk; rw [decide_eq_false (by omega), Bool.and_false]))
      rw [HA.out]
      clear hB HA
      go_enter Try.func27, Try.ntmps27
      go_wp2_with fail
      generalize w.alloc (.cells #[.int .i64 k, .int .i64 c] 57) = w1 at HL HB ⊢
      refine (HP.out _).mono ?_
      rintro e w2 ⟨rfl, hL2⟩
      have HL3 := hid (HL.out.trans (hL2.trans (Later.alloc w2 (.cells #[.int .i64 x, .int .i64 y] 61))))
      clear hL2
      unfold jpA
      simp only [Option.getD_some, Option.isSome_some]
      go_wp2_with fail
      go_ret2
      exact ⟨_, rfl, OwnRows.noneH _ _ _, HL3.out⟩
    · by_cases hs1 : s ≤ 40
      · have HA := hid (ascAns_yes hB ⟨by omega, hs1⟩)
        obtain ⟨n, rfl⟩ : ∃ n : Nat, s = (n : Int) := ⟨s.toNat, by omega⟩
        rw [Int.toNat_natCast] at HA
        have hn : n ≤ 40 := by omega
        have HR := hid (fun w0 => run_any 49 Try.call49 (upJ k) (.iface 57 (.agg #[.int .i64 k, .int .i64 c])) upJ_keep (fun p w0 hp => up_any (prodEq k c (juB_WQ hB)) p.1 p.2 w0 hp) x y (n + 1) (by omega) w0 HN.out)
        obtain ⟨R, hR⟩ : ∃ R, upRun k (n + 1) (x, y) = R := ⟨_, rfl⟩
        have hRr : runJ (upJ k) (n + 1) (x, y) = R := hR
        have HLN := hid (show R.length ≤ n + 1 by rw [← hRr]; exact runJ_len _ _ _)
        rw [hR] at HA
        rw [hRr] at HR
        have HCST := hid (show ((n + 1 : Nat) : Int) = (n : Int) + 1 by omega)
        rw [HCST.out] at HR
        obtain ⟨T, hT⟩ : ∃ T, (if (n : Int) < (R.length : Int) then some (R.map jpL) else none) = T := ⟨_, rfl⟩
        rw [HA.out, hT]
        have HTT := hid hT
        clear hB hR hRr HA hT
        go_enter Try.func27, Try.ntmps27
        go_wp2_with fail
        generalize w.alloc (.cells #[.int .i64 k, .int .i64 c] 57) = w1 at HL HB ⊢
        refine (HP.out _).mono ?_
        rintro e w2 ⟨rfl, hL2⟩
        have hL3 := hL2.trans (Later.alloc w2 (.cells #[.int .i64 x, .int .i64 y] 61))
        have HL3 := hid (HL.out.trans hL3)
        have HB3 := hid (HB.out.later hL3)
        have HE3 := hid (JBox.new w2 x y 61)
        clear hL2 hL3
        unfold jpA
        simp only [Option.getD_some, Option.isSome_some]
        go_upto_region 5 with fail
        generalize w2.alloc (.cells #[.int .i64 x, .int .i64 y] 61) = w3 at HL3 HB3 HE3 ⊢
        obtain ⟨b0, b1, _, _⟩ := HB3.out
        obtain ⟨c0, c1, _, _⟩ := HE3.out
        go_wp2_with fail
        refine (HR.out _).mono ?_
        rintro e w4 ⟨v4, rfl, ho, hL4⟩
        have HL4 := hid (HL3.out.trans hL4)
        have HO4 := hid (ho.jps (by have := HLN.out; omega))
        obtain ⟨o1, o2, rfl, _⟩ := ho.shape
        clear hL4 ho b0 b1 c0 c1
        have hlb := HLN.out
        by_cases hl : (n : Int) < (R.length : Int)
        · have HT2 := hid (show T = some (R.map jpL) by rw [← HTT.out, if_pos hl])
          go_wp2_with fail
          refine (listsOfJ_any _ R _ (by omega) HO4.out).mono ?_
          rintro e w5 ⟨v5, rfl, ho5, hL5⟩
          have HL5 := hid (HL4.out.trans hL5)
          obtain ⟨a5, c5, rfl, _⟩ := ho5.shape
          rw [List.length_map] at ho5
          have HO5 := hid (ho5.wide HL4.out.size (Nat.le_refl _))
          clear hL5 ho5
          go_wp2_with fail
          go_ret2
          rw [HT2.out]
          exact ⟨_, rfl, HO5.out, HL5.out⟩
        · have HT2 := hid (show T = none by rw [← HTT.out, if_neg hl])
          go_wp2_with fail
          go_ret2
          rw [HT2.out]
          exact ⟨_, rfl, OwnRows.noneH _ _ _, HL4.out⟩
      · have HA := hid (show ascAns x y k c s = none from ascAns_no (by unfold ascOk; rw [decide_eq_false (by omega), Bool.and_false]))
        rw [HA.out]
        clear hB HA
        go_enter Try.func27, Try.ntmps27
        go_wp2_with fail
        generalize w.alloc (.cells #[.int .i64 k, .int .i64 c] 57) = w1 at HL HB ⊢
        refine (HP.out _).mono ?_
        rintro e w2 ⟨rfl, hL2⟩
        have HL3 := hid (HL.out.trans (hL2.trans (Later.alloc w2 (.cells #[.int .i64 x, .int .i64 y] 61))))
        clear hL2
        unfold jpA
        simp only [Option.getD_some, Option.isSome_some]
        go_wp2_with fail
        go_ret2
        exact ⟨_, rfl, OwnRows.noneH _ _ _, HL3.out⟩
def quoS (q : Int) : Int → Int → Bool := fun x y => (quoJ x y).isSome && ((quoJ x y).getD 0 == q)
end Go.Proofs.Ythejafejmbpepaa
