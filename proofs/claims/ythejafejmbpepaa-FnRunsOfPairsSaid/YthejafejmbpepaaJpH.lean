/- Ways down and jumps from numbers (the program): descentFrom, behindJump. -/
import Derived.Test.YthejafejmbpepaaJpG
namespace Go.Proofs.Ythejafejmbpepaa
open Go.RowKit

theorem dnJ_keep {k : Int} (p q : Jp2) (h : jpN p) (e : dnJ k p = some q) : jpN q := (dnJ_good h e).1
theorem upJ_keep {k : Int} (p q : Jp2) (h : jpN p) (e : upJ k p = some q) : jpN q := upJ_good h e
section jh
variable {T : TypeId} {m : Value} {Ks Ko : FuncId} {S : Int → Int → Bool} {k : Int}
set_option maxRecDepth 20000 in
set_option maxHeartbeats 2000000 in
theorem descentFrom_no (E : EqS T m Ks S) (x y : Int) (w : World) (hp : pairOk S x y = none) :
    Calls Try.prog 61 #[.iface T m, .int .i64 x, .int .i64 y] w fun e w' => RowsAns w none e w' := by
  have HP := hid (fun w0 => pairOf_any E x y w0)
  rw [hp] at HP
  clear hp E
  go_enter Try.func61, Try.ntmps61
  go_wp2_with fail
  refine (HP.out _).mono ?_
  rintro e w1 ⟨rfl, hL1⟩
  have HL := hid (hL1.trans (Later.alloc w1 (.cells #[.int .i64 0, .int .i64 0] 61)))
  clear hL1
  unfold jpA
  simp only [Option.getD_none, Option.isSome_none]
  go_wp2_with fail
  go_ret2
  exact ⟨_, rfl, OwnRows.noneH _ _ _, HL.out⟩
set_option maxRecDepth 20000 in
set_option maxHeartbeats 2000000 in
theorem descentFrom_yes (E : EqJ T m Ks Ko S k) (x y : Int) (w : World) (hp : pairOk S x y = some (x, y)) :
    Calls Try.prog 61 #[.iface T m, .int .i64 x, .int .i64 y] w fun e w' => RowsAns w (toldJ (dnRun k (x, y))) e w' := by
  have HP := hid (fun w0 => pairOf_any E.s x y w0)
  have HN := hid (pairOk_N hp).2
  have HR := hid (fun w0 => run_any 44 Try.call44 (dnJ k) (.iface T m) dnJ_keep (fun p w0 hp => down_any E p.1 p.2 w0 hp) x y 1001 (by omega) w0 (pairOk_N hp).2)
  rw [hp] at HP
  have HW := hid (show runJ (dnJ k) 1001 (x, y) = dnRun k (x, y) from rfl)
  have HLN := hid (show (dnRun k (x, y)).length ≤ 1001 from runJ_len _ _ _)
  rw [HW.out] at HR
  clear hp E
  go_enter Try.func61, Try.ntmps61
  go_wp2_with fail
  refine (HP.out _).mono ?_
  rintro e w1 ⟨rfl, hL1⟩
  have HL := hid (hL1.trans (Later.alloc w1 (.cells #[.int .i64 x, .int .i64 y] 61)))
  clear hL1
  unfold jpA
  simp only [Option.getD_some, Option.isSome_some]
  go_wp2_with fail
  generalize w1.alloc (.cells #[.int .i64 x, .int .i64 y] 61) = w2 at HL ⊢
  refine (HR.out _).mono ?_
  rintro e w3 ⟨v3, rfl, ho, hL3⟩
  have HL3 := hid (HL.out.trans hL3)
  have HO3 := hid (ho.jps (by have := HLN.out; omega))
  obtain ⟨o1, o2, rfl, _⟩ := ho.shape
  clear hL3 ho
  go_wp2_with fail
  refine (toldPairs_any _ _ _ (by have := HLN.out; omega) HO3.out).mono ?_
  rintro e w4 ⟨v4, rfl, ho4, hL4⟩
  have HL4 := hid (HL3.out.trans hL4)
  have HO4 := hid (ho4.wide HL3.out.size (Nat.le_refl _))
  obtain ⟨a4, c4, rfl, _⟩ := ho4.shape
  clear hL4 ho4
  go_wp2_with fail
  go_ret2
  exact ⟨_, rfl, HO4.out, HL4.out⟩
end jh
end Go.Proofs.Ythejafejmbpepaa
