/- Equations of Hurwitz: ClimbHurwitz, JumpAt (the program). -/
import Derived.Test.YtjnhhjnfdaaaeaaHuJp
import Derived.Test.YtjnhhjnfdaaaeaaHuW
import Derived.Test.YtjnhhjnfdaaaeaaLayCloneI
namespace Go.Proofs.Ytjnhhjnfdaaaeaa
open Go.RowKit

theorem within_lt {n : Nat} {x : Int} : within 0 ((n : Int) - 1) x = (decide (0 ≤ x) && decide (x < (n : Int))) := by
  unfold within
  congr 1
  exact decide_eq_decide.2 (by omega)
set_option maxHeartbeats 2000000 in
theorem isIndexWordH_any (v : Value) (zs : List Int) (n : Nat) (w : World) (h : Ints w v zs) :
    Calls Try.prog 59 #[v, .int .i64 (n : Nat)] w fun e w' => e = .returned (.bool (wordB zs n)) ∧ w = w' := by
  obtain ⟨a, cap, rfl, _, hc⟩ := h
  have HC := hid hc
  clear hc
  by_cases hl : zs.length ≤ 40
  · have HW := hid (show wordB zs n = zs.all (within 0 ((n : Int) - 1)) by unfold wordB; rw [decide_eq_true hl]; rfl)
    have h40 : ¬ (40 : Int) < (zs.length : Int) := by omega
    go_enter Try.func59, Try.ntmps59
    go_wp2_with fail
    go_loop [12] (fun i => ∃ k : Nat, k ≤ zs.length ∧ i = .int .i64 k ∧ (zs.take k).all (within 0 ((n : Int) - 1)) = true) (fun i => zs.length - (intOf i).toNat)
    case atStart => exact ⟨0, Nat.zero_le _, rfl, rfl⟩
    case round =>
      obtain ⟨k, hk, rfl, hal⟩ := hrel
      have HA := hid hal
      clear hal
      by_cases hlt : k < zs.length
      · obtain ⟨ad, rfl, hcell⟩ := HC.out k hlt
        simp only [getD_at zs k hlt] at hcell
        by_cases h3 : zs[k] < 0
        · have HF := hid (all_false_at (within 0 ((n : Int) - 1)) zs k hlt (by rw [within_lt, decide_eq_false (show ¬ 0 ≤ zs[k] by omega)]; rfl))
          go_wp2_with fail
          go_ret
          exact ⟨ret_bool (by rw [HW.out, HF.out]), rfl⟩
        · by_cases h4 : (n : Int) ≤ zs[k]
          · have HF := hid (all_false_at (within 0 ((n : Int) - 1)) zs k hlt (by rw [within_lt, decide_eq_false (show ¬ zs[k] < (n : Int) by omega), Bool.and_false]))
            go_wp2_with fail
            go_ret
            exact ⟨ret_bool (by rw [HW.out, HF.out]), rfl⟩
          · have HT := hid (all_take_succ (within 0 ((n : Int) - 1)) zs k hlt HA.out (by rw [within_lt, decide_eq_true (show 0 ≤ zs[k] by omega), decide_eq_true (show zs[k] < (n : Int) by omega)]; rfl))
            go_wp2_with fail
            go_round
            case rel => exact ⟨k + 1, hlt, by go_num, HT.out⟩
            case measure => simp [intOf]; omega
      · go_wp2_with fail
        go_ret
        exact ⟨ret_bool (by rw [HW.out, ← HA.out, take_all zs k (by omega)]), rfl⟩
  · have HW := hid (show wordB zs n = false by unfold wordB; rw [decide_eq_false hl]; rfl)
    have h40 : (40 : Int) < (zs.length : Int) := by omega
    go_enter Try.func59, Try.ntmps59
    go_wp2_with fail
    go_ret
    exact ⟨ret_bool (by rw [HW.out]), rfl⟩
theorem isIndexWordH_as (v : Value) (zs : List Int) (n : Nat) (o : Bool) (w : World) (ho : wordB zs n = o) (h : Ints w v zs) :
    Calls Try.prog 59 #[v, .int .i64 (n : Nat)] w fun e w' => e = .returned (.bool o) ∧ w = w' := by
  subst ho; exact isIndexWordH_any v zs n w h

/-- what jumpFor hands back: the closure over a cell that holds the factor -/
def JumpFn (w : World) (a : Int) (e : Ending) (w' : World) : Prop := ∃ Ba, w.heap.size ≤ Ba ∧ e = .returned (.func (.func 86) #[] #[.pointer (some ⟨Ba, 0, none⟩)]) ∧ w'.cell? ⟨Ba, 0, none⟩ = some (.int .i64 a) ∧ Later w w'
theorem jumpFor_any (a : Int) (w : World) : Calls Try.prog 60 #[.int .i64 a] w fun e w' => JumpFn w a e w' := by
  have HL := hid (Later.alloc w (.cells #[.int .i64 a] 3))
  have HC : Hid ((w.alloc (.cells #[.int .i64 a] 3)).cell? ⟨w.heap.size, 0, none⟩ = some (.int .i64 a)) := hid (by simp [go_sem])
  go_enter Try.func60, Try.ntmps60
  go_wp2_with fail
  go_ret
  exact ⟨w.heap.size, Nat.le_refl _, rfl, HC.out, HL.out⟩

set_option maxRecDepth 20000 in
theorem listS_any (x y z t : Int) (w : World) :
    Calls Try.prog 61 #[.agg #[.int .i64 x, .int .i64 y, .int .i64 z, .int .i64 t]] w fun e w' => MadeInts w (qL x y z t) e w' := by
  have HL := hid (Later.alloc w (.cells #[.int .i64 x, .int .i64 y, .int .i64 z, .int .i64 t] 48))
  have HA := hid (arr4_alloc w x y z t)
  obtain ⟨c0, c1, c2, c3⟩ := HA.out
  go_enter Try.func61, Try.ntmps61
  go_wp2_with fail
  generalize w.alloc (.cells #[.int .i64 x, .int .i64 y, .int .i64 z, .int .i64 t] 48) = w1 at c0 c1 c2 c3 HL HA ⊢
  refine (parts_any x y z t _).mono ?_
  rintro e w2 ⟨rfl, hL2⟩
  have HA2 := hid (HA.out.later hL2)
  have HI := hid HA2.out.ints
  have HL2 := hid (HL.out.trans hL2)
  have hn3 : (qN t : Int) ≤ 4 := by have := qN_bd t; omega
  have hn0 : (0 : Int) ≤ (qN t : Int) := by omega
  have HN := hid (qN_bd t)
  clear c0 c1 c2 c3 hL2 HL HA
  go_wp2_with fail
  refine (Any.slices_Clone_int laysLays215 w.heap.size 0 (qN t) 4 (qL x y z t) w2 (by rw [qL_len]; exact Nat.le_refl _) (by have := HN.out; omega) (fun j hj => ?_)).mono ?_
  · obtain ⟨_, _, e1, _, hc⟩ := HI.out
    simp only [Value.slice.injEq] at e1
    obtain ⟨rfl, _, rfl⟩ := e1
    obtain ⟨ad, e2, hcell⟩ := hc j hj
    simp only [Option.some.injEq] at e2
    subst e2
    rw [addr_add0] at hcell
    rw [Nat.zero_add]
    exact hcell
  rintro e w3 ⟨v3, rfl, ho, _, hb⟩
  have HL3 := hid (HL2.out.trans hb)
  have HO : Hid (OwnInts w2.heap.size w3.heap.size w3 v3 (qL x y z t)) := hid (OwnInts.ofH ho (by rw [List.take_of_length_le (by rw [qL_len]; exact Nat.le_refl _)]))
  clear hb ho
  go_wp2_with fail
  go_ret
  exact ⟨_, rfl, HO.out.wide HL2.out.size (Nat.le_refl _), HL3.out⟩
end Go.Proofs.Ytjnhhjnfdaaaeaa
