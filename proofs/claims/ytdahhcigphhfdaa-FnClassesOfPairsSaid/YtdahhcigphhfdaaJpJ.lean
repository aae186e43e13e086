/- Jumping roots in the program: IsJump, JumpDown, JumpUp. -/
import Derived.Test.YtdahhcigphhfdaaJpI
namespace Go.Proofs.Ytdahhcigphhfdaa
open Go.RowKit

theorem pairOk_yes {k c x y : Int} (h : juB x y k c = true) : pairOk (prodS k c) x y = some (x, y) := by rw [pairOk_prod, if_pos h]
theorem pairOk_no {k c x y : Int} (h : juB x y k c = false) : pairOk (prodS k c) x y = none := by rw [pairOk_prod, if_neg (by rw [h]; simp)]
theorem juB_W {x y k c : Int} (h : juB x y k c = true) : juW k c = true := by unfold juB at h; simp only [Bool.and_eq_true] at h; exact h.1
theorem juB_N {x y k c : Int} (h : juB x y k c = true) : jpN (x, y) := (pairOk_N (pairOk_yes h)).2
set_option maxRecDepth 20000 in
set_option maxHeartbeats 1000000 in
theorem implIsJump_any (x y k c : Int) (w : World) :
    Calls Try.prog 89 #[.int .i64 x, .int .i64 y, .int .i64 k, .int .i64 c] w fun e w' => BoolAns w (isjAns x y k c) e w' := by
  have HA := hid (show ((isjAns x y k c).getD false = (pairOk (prodS k c) x y).isSome) ∧ (isjAns x y k c).isSome = juW k c by
    rw [pairOk_prod]; unfold isjAns juB
    cases hW : juW k c <;> cases hG : juGd x y k c <;> simp)
  have HP := hid (fun w0 => pairOf_any (prodEqS k c) x y w0)
  obtain ⟨o, ho⟩ : ∃ o, pairOk (prodS k c) x y = o := ⟨_, rfl⟩
  rw [ho] at HA HP
  obtain ⟨a, ha⟩ : ∃ a, (o.getD (0, 0)).1 = a := ⟨_, rfl⟩
  obtain ⟨b, hb⟩ : ∃ b, (o.getD (0, 0)).2 = b := ⟨_, rfl⟩
  obtain ⟨q, hq⟩ : ∃ q, o.isSome = q := ⟨_, rfl⟩
  have HP2 := hid (fun w0 => show Calls Try.prog 90 #[.iface 74 (.agg #[.int .i64 k, .int .i64 c]), .int .i64 x, .int .i64 y] w0 fun e w' => e = .returned (.tuple #[.agg #[.int .i64 a, .int .i64 b], .bool q]) ∧ Later w0 w' by
    have := HP.out w0; unfold JpAns jpA at this; rw [ha, hb, hq] at this; exact this)
  rw [hq] at HA
  have HL := hid (Later.alloc w (.cells #[.int .i64 k, .int .i64 c] 74))
  have HB := hid (JBox.new w k c 74)
  clear ho ha hb hq HP
  go_enter Try.func89, Try.ntmps89
  go_wp2_with fail
  generalize w.alloc (.cells #[.int .i64 k, .int .i64 c] 74) = w1 at HL HB ⊢
  refine (HP2.out _).mono ?_
  rintro e w2 ⟨rfl, hL2⟩
  have hL3 := hL2.trans (Later.alloc w2 (.cells #[.int .i64 a, .int .i64 b] 84))
  have HL3 := hid (HL.out.trans hL3)
  have HB3 := hid (HB.out.later hL3)
  clear hL2 hL3
  go_upto_region 3 with fail
  generalize w2.alloc (.cells #[.int .i64 a, .int .i64 b] 84) = w3 at HL3 HB3 ⊢
  obtain ⟨b0, b1, _, _⟩ := HB3.out
  go_wp2_with fail
  refine (isWithin_any _ _ _).mono ?_
  rintro e w4 ⟨rfl, hL4⟩
  have HL4 := hid (HL3.out.trans hL4)
  clear hL4
  go_wp2_with fail
  go_ret2
  exact ⟨by rw [HA.out.1, HA.out.2]; rfl, HL4.out⟩
end Go.Proofs.Ytdahhcigphhfdaa
