/- Jumps from numbers (the program): behindJump. -/
import Derived.Test.YthejafejmbpepaaJpF
namespace Go.Proofs.Ythejafejmbpepaa
open Go.RowKit

section jh
variable {T : TypeId} {m : Value} {Ks Ko : FuncId} {S : Int → Int → Bool} {k : Int}
set_option maxRecDepth 20000 in
set_option maxHeartbeats 2000000 in
theorem behindJump_no (E : EqS T m Ks S) (x y : Int) (jv : Value) (w : World) (hp : pairOk S x y = none) :
    Calls Try.prog 43 #[.iface T m, .int .i64 x, .int .i64 y, jv] w fun e w' => PairAns w none e w' := by
  have HP := hid (fun w0 => pairOf_any E x y w0)
  rw [hp] at HP
  clear hp E
  go_enter Try.func43, Try.ntmps43
  go_wp2_with fail
  refine (HP.out _).mono ?_
  rintro e w1 ⟨rfl, hL1⟩
  have HL := hid (hL1.trans (Later.alloc w1 (.cells #[.int .i64 0, .int .i64 0] 61)))
  clear hL1
  unfold jpA
  simp only [Option.getD_none, Option.isSome_none]
  go_wp2_with fail
  go_ret3
  exact ⟨rfl, HL.out⟩
set_option maxRecDepth 20000 in
set_option maxHeartbeats 2000000 in
theorem behindJump_yes (E : EqS T m Ks S) (g : Nat) (eg : ∀ args w, (callFunc g args).run Try.prog w = .ok (.enter g args) w) (f : Jp2 → Option Jp2)
    (hc : ∀ (p : Jp2) (w0 : World), jpN p → Calls Try.prog g #[.agg #[.int .i64 p.1, .int .i64 p.2], .iface T m] w0 fun e w' => JpAns w0 (f p) e w') (x y : Int) (w : World) (hp : pairOk S x y = some (x, y)) :
    Calls Try.prog 43 #[.iface T m, .int .i64 x, .int .i64 y, .func (.func g) #[] #[]] w fun e w' => PairAns w (f (x, y)) e w' := by
  have HP := hid (fun w0 => pairOf_any E x y w0)
  have HC := hid (fun w0 => hc (x, y) w0 (pairOk_N hp).2)
  rw [hp] at HP
  obtain ⟨o, ho⟩ : ∃ o, f (x, y) = o := ⟨_, rfl⟩
  rw [ho] at HC ⊢
  obtain ⟨a, ha⟩ : ∃ a, (o.getD (0, 0)).1 = a := ⟨_, rfl⟩
  obtain ⟨b, hb⟩ : ∃ b, (o.getD (0, 0)).2 = b := ⟨_, rfl⟩
  obtain ⟨q, hq⟩ : ∃ q, o.isSome = q := ⟨_, rfl⟩
  have HC2 := hid (fun w0 => show Calls Try.prog g #[.agg #[.int .i64 x, .int .i64 y], .iface T m] w0 fun e w' => e = .returned (.tuple #[.agg #[.int .i64 a, .int .i64 b], .bool q]) ∧ Later w0 w' by
    have := HC.out w0; unfold JpAns jpA at this; rw [ha, hb, hq] at this; exact this)
  have HA := hid (fun (e : Ending) (w' : World) (h : e = .returned (.tuple #[.int .i64 a, .int .i64 b, .bool q]) ∧ Later w w') => show PairAns w o e w' by unfold PairAns; rw [ha, hb, hq]; exact h)
  clear hp E hc ho ha hb hq HC
  go_enter Try.func43, Try.ntmps43
  go_wp2_with fail
  refine (HP.out _).mono ?_
  rintro e w1 ⟨rfl, hL1⟩
  have HL := hid (hL1.trans (Later.alloc w1 (.cells #[.int .i64 x, .int .i64 y] 61)))
  clear hL1
  unfold jpA
  simp only [Option.getD_some, Option.isSome_some]
  go_wp2_with fail
  generalize w1.alloc (.cells #[.int .i64 x, .int .i64 y] 61) = w2 at HL ⊢
  refine (HC2.out _).mono ?_
  rintro e w3 ⟨rfl, hL3⟩
  have HL3 := hid (HL.out.trans (hL3.trans (Later.alloc w3 (.cells #[.int .i64 a, .int .i64 b] 61))))
  have HB3 := hid (JBox.new w3 a b 61)
  clear hL3
  go_upto_region 5 with fail
  generalize w3.alloc (.cells #[.int .i64 a, .int .i64 b] 61) = w4 at HL3 HB3 ⊢
  obtain ⟨b0, b1, _, _⟩ := HB3.out
  go_quiet (fail)
  go_wp2_with fail
  go_ret3
  exact HA.out _ _ ⟨rfl, HL3.out.trans (Later.drewN _ _)⟩
end jh
end Go.Proofs.Ythejafejmbpepaa
