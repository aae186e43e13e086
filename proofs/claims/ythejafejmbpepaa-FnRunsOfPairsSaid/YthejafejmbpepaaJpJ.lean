/- Jumping roots in the program: IsJump, JumpDown, JumpUp. -/
import Derived.Test.YthejafejmbpepaaJpI
namespace Go.Proofs.Ythejafejmbpepaa
open Go.RowKit

theorem pairOk_yes {k c x y : Int} (h : juB x y k c = true) : pairOk (prodS k c) x y = some (x, y) := by rw [pairOk_prod, if_pos h]
theorem pairOk_no {k c x y : Int} (h : juB x y k c = false) : pairOk (prodS k c) x y = none := by rw [pairOk_prod, if_neg (by rw [h]; simp)]
theorem juB_W {x y k c : Int} (h : juB x y k c = true) : juW k c = true := by unfold juB at h; simp only [Bool.and_eq_true] at h; exact h.1
theorem juB_N {x y k c : Int} (h : juB x y k c = true) : jpN (x, y) := (pairOk_N (pairOk_yes h)).2
set_option maxRecDepth 20000 in
set_option maxHeartbeats 1000000 in
theorem implJumpDown_any (x y k c : Int) (w : World) :
    Calls Try.prog 8 #[.int .i64 x, .int .i64 y, .int .i64 k, .int .i64 c] w fun e w' => PairAns w (dnAns x y k c) e w' := by
  obtain ⟨o, ho⟩ : ∃ o, dnAns x y k c = o := ⟨_, rfl⟩
  rw [ho]
  have HC : Hid (∀ w0, Calls Try.prog 43 #[.iface 57 (.agg #[.int .i64 k, .int .i64 c]), .int .i64 x, .int .i64 y, .func (.func 44) #[] #[]] w0 fun e w' => PairAns w0 o e w') := hid (fun w0 => by
    rw [← ho]
    unfold dnAns
    cases hB : juB x y k c
    · exact behindJump_no (prodEqS k c) x y _ w0 (pairOk_no hB)
    · exact behindJump_yes (prodEqS k c) _ Try.call44 (dnJ k) (fun p w0 hp => down_any (prodEq k c (juB_W hB)) p.1 p.2 w0 hp) x y w0 (pairOk_yes hB))
  clear ho
  go_enter Try.func8, Try.ntmps8
  go_wp2_with fail
  refine (HC.out _).mono ?_
  rintro e w1 ⟨rfl, hL⟩
  have HL := hid hL
  clear hL
  go_wp2_with fail
  go_ret3
  exact ⟨rfl, HL.out⟩
set_option maxRecDepth 20000 in
set_option maxHeartbeats 1000000 in
theorem implJumpUp_any (x y k c : Int) (w : World) :
    Calls Try.prog 11 #[.int .i64 x, .int .i64 y, .int .i64 k, .int .i64 c] w fun e w' => PairAns w (upAns8 x y k c) e w' := by
  obtain ⟨o, ho⟩ : ∃ o, upAns8 x y k c = o := ⟨_, rfl⟩
  rw [ho]
  have HC : Hid (∀ w0, Calls Try.prog 43 #[.iface 57 (.agg #[.int .i64 k, .int .i64 c]), .int .i64 x, .int .i64 y, .func (.func 49) #[] #[]] w0 fun e w' => PairAns w0 o e w') := hid (fun w0 => by
    rw [← ho]
    unfold upAns8
    cases hB : juB x y k c
    · exact behindJump_no (prodEqS k c) x y _ w0 (pairOk_no hB)
    · exact behindJump_yes (prodEqS k c) _ Try.call49 (upJ k) (fun p w0 hp => up_any (prodEq k c (juB_W hB)) p.1 p.2 w0 hp) x y w0 (pairOk_yes hB))
  clear ho
  go_enter Try.func11, Try.ntmps11
  go_wp2_with fail
  refine (HC.out _).mono ?_
  rintro e w1 ⟨rfl, hL⟩
  have HL := hid hL
  clear hL
  go_wp2_with fail
  go_ret3
  exact ⟨rfl, HL.out⟩
set_option maxRecDepth 20000 in
set_option maxHeartbeats 1000000 in
theorem implIsJump_any (x y k c : Int) (w : World) :
    Calls Try.prog 48 #[.int .i64 x, .int .i64 y, .int .i64 k, .int .i64 c] w fun e w' => BoolAns w (isjAns x y k c) e w' := by
  have HA := hid (show ((isjAns x y k c).getD false = (pairOk (prodS k c) x y).isSome) ∧ (isjAns x y k c).isSome = juW k c by
    rw [pairOk_prod]; unfold isjAns juB
    cases hW : juW k c <;> cases hG : juGd x y k c <;> simp)
  have HP := hid (fun w0 => pairOf_any (prodEqS k c) x y w0)
  obtain ⟨o, ho⟩ : ∃ o, pairOk (prodS k c) x y = o := ⟨_, rfl⟩
  rw [ho] at HA HP
  obtain ⟨a, ha⟩ : ∃ a, (o.getD (0, 0)).1 = a := ⟨_, rfl⟩
  obtain ⟨b, hb⟩ : ∃ b, (o.getD (0, 0)).2 = b := ⟨_, rfl⟩
  obtain ⟨q, hq⟩ : ∃ q, o.isSome = q := ⟨_, rfl⟩
  have HP2 := hid (fun w0 => show Calls Try.prog 63 #[.iface 57 (.agg #[.int .i64 k, .int .i64 c]), .int .i64 x, .int .i64 y] w0 fun e w' => e = .returned (.tuple #[.agg #[.int .i64 a, .int .i64 b], .bool q]) ∧ Later w0 w' by
    have := HP.out w0; unfold JpAns jpA at this; rw [ha, hb, hq] at this; exact this)
  rw [hq] at HA
  have HL := hid (Later.alloc w (.cells #[.int .i64 k, .int .i64 c] 57))
  have HB := hid (JBox.new w k c 57)
  clear ho ha hb hq HP
  go_enter Try.func48, Try.ntmps48
  go_wp2_with fail
  generalize w.alloc (.cells #[.int .i64 k, .int .i64 c] 57) = w1 at HL HB ⊢
  refine (HP2.out _).mono ?_
  rintro e w2 ⟨rfl, hL2⟩
  have hL3 := hL2.trans (Later.alloc w2 (.cells #[.int .i64 a, .int .i64 b] 61))
  have HL3 := hid (HL.out.trans hL3)
  have HB3 := hid (HB.out.later hL3)
  clear hL2 hL3
  go_upto_region 3 with fail
  generalize w2.alloc (.cells #[.int .i64 a, .int .i64 b] 61) = w3 at HL3 HB3 ⊢
  obtain ⟨b0, b1, _, _⟩ := HB3.out
  go_wp2_with fail
  refine (isWithin_any _ _ _).mono ?_
  rintro e w4 ⟨rfl, hL4⟩
  have HL4 := hid (HL3.out.trans hL4)
  clear hL4
  go_wp2_with fail
  go_ret2
  exact ⟨by rw [HA.out.1, HA.out.2]; rfl, HL4.out⟩
end Go.Proofs.Ythejafejmbpepaa
