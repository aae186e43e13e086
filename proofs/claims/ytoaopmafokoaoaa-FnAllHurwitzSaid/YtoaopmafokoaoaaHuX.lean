/- Equations of Hurwitz: ClimbHurwitz, JumpAt (the program). -/
import Derived.Test.YtoaopmafokoaoaaHuJp
import Derived.Test.YtoaopmafokoaoaaHuUVW
import Derived.Test.YtoaopmafokoaoaaLayCloneI
import Derived.Test.YtoaopmafokoaoaaIdxA
namespace Go.Proofs.Ytoaopmafokoaoaa
open Go.RowKit

theorem within_lt {n : Nat} {x : Int} : within 0 ((n : Int) - 1) x = (decide (0 ≤ x) && decide (x < (n : Int))) := by
  unfold within
  congr 1
  exact decide_eq_decide.2 (by omega)
theorem isIndexWordH_any (v : Value) (zs : List Int) (n : Nat) (w : World) (h : Ints w v zs) :
    Calls Try.prog 87 #[v, .int .i64 (n : Nat)] w fun e w' => e = .returned (.bool (wordB zs n)) ∧ w = w' := by
  unfold wordB; exact isIdx_any v zs n w h
theorem isIndexWordH_as (v : Value) (zs : List Int) (n : Nat) (o : Bool) (w : World) (ho : wordB zs n = o) (h : Ints w v zs) :
    Calls Try.prog 87 #[v, .int .i64 (n : Nat)] w fun e w' => e = .returned (.bool o) ∧ w = w' := by
  subst ho; exact isIndexWordH_any v zs n w h

/-- what jumpFor hands back: the closure over a cell that holds the factor -/
def JumpFn (w : World) (a : Int) (e : Ending) (w' : World) : Prop := ∃ Ba, w.heap.size ≤ Ba ∧ e = .returned (.func (.func 141) #[] #[.pointer (some ⟨Ba, 0, none⟩)]) ∧ w'.cell? ⟨Ba, 0, none⟩ = some (.int .i64 a) ∧ Later w w'
theorem jumpFor_any (a : Int) (w : World) : Calls Try.prog 118 #[.int .i64 a] w fun e w' => JumpFn w a e w' := by
  have HL := hid (Later.alloc w (.cells #[.int .i64 a] 3))
  have HC : Hid ((w.alloc (.cells #[.int .i64 a] 3)).cell? ⟨w.heap.size, 0, none⟩ = some (.int .i64 a)) := hid (by simp [go_sem])
  go_enter Try.func118, Try.ntmps118
  go_wp2_with fail
  go_ret
  exact ⟨w.heap.size, Nat.le_refl _, rfl, HC.out, HL.out⟩

set_option maxRecDepth 20000 in
theorem listS_any (x y z t : Int) (w : World) :
    Calls Try.prog 77 #[.agg #[.int .i64 x, .int .i64 y, .int .i64 z, .int .i64 t]] w fun e w' => MadeInts w (qL x y z t) e w' := by
  have HL := hid (Later.alloc w (.cells #[.int .i64 x, .int .i64 y, .int .i64 z, .int .i64 t] 69))
  have HA := hid (arr4_alloc w x y z t)
  obtain ⟨c0, c1, c2, c3⟩ := HA.out
  go_enter Try.func77, Try.ntmps77
  go_wp2_with fail
  generalize w.alloc (.cells #[.int .i64 x, .int .i64 y, .int .i64 z, .int .i64 t] 69) = w1 at c0 c1 c2 c3 HL HA ⊢
  refine (parts_any x y z t _).mono ?_
  rintro e w2 ⟨rfl, hL2⟩
  have HA2 := hid (HA.out.later hL2)
  have HI := hid HA2.out.ints
  have HL2 := hid (HL.out.trans hL2)
  have hn3 : (qN t : Int) ≤ 4 := by have := qN_bd t; omega
  have hn0 : (0 : Int) ≤ (qN t : Int) := by omega
  have HN := hid (qN_bd t)
  clear c0 c1 c2 c3 hL2 HL HA
  go_wp2_with fail
  refine (Any.slices_Clone_int laysLays215 w.heap.size 0 (qN t) 4 (qL x y z t) w2 (by rw [qL_len]; exact Nat.le_refl _) (by have := HN.out; omega) (fun j hj => ?_)).mono ?_
  · obtain ⟨_, _, e1, _, hc⟩ := HI.out
    simp only [Value.slice.injEq] at e1
    obtain ⟨rfl, _, rfl⟩ := e1
    obtain ⟨ad, e2, hcell⟩ := hc j hj
    simp only [Option.some.injEq] at e2
    subst e2
    rw [addr_add0] at hcell
    rw [Nat.zero_add]
    exact hcell
  rintro e w3 ⟨v3, rfl, ho, _, hb⟩
  have HL3 := hid (HL2.out.trans hb)
  have HO : Hid (OwnInts w2.heap.size w3.heap.size w3 v3 (qL x y z t)) := hid (OwnInts.ofH ho (by rw [List.take_of_length_le (by rw [qL_len]; exact Nat.le_refl _)]))
  clear hb ho
  go_wp2_with fail
  go_ret
  exact ⟨_, rfl, HO.out.wide HL2.out.size (Nat.le_refl _), HL3.out⟩
end Go.Proofs.Ytoaopmafokoaoaa
