/- Contracts of the comparisons of lists and of grids, and of IsSymmetric. -/
import Derived.Test.YtefngijgoldjmabAnswer
namespace Go.Proofs.Ytefngijgoldjmab
open Go.RowKit

set_option maxHeartbeats 400000 in
theorem l1Same_any (u v : Value) (xs ys : List Int) (w : World) (hx : Ints w u xs) (hy : Ints w v ys) :
    Calls Try.prog 86 #[u, v] w fun e w' => e = .returned (.bool (eqL xs ys)) ∧ Drew w w' := by
  obtain ⟨a, cap, rfl, hl, hc⟩ := hx
  obtain ⟨b, cap2, rfl, hl2, hc2⟩ := hy
  have HC := hid hc
  have HC2 := hid hc2; clear hc hc2
  by_cases hlen : xs.length = ys.length
  · have HL := hid hlen
    have hne : ((xs.length : Int) != (ys.length : Int)) = false := by simp [hlen]
    have hle : xs.length ≤ ys.length := by omega
    clear hlen
    go_enter Try.func86, Try.ntmps86
    go_wp2
    go_loopw [13] (fun i wr => ∃ k n : Nat, k ≤ xs.length ∧ i = .int .i64 k ∧ xs.take k = ys.take k ∧ wr = w.drewN n) (fun i _ => xs.length - (intOf i).toNat)
    case atStart => exact ⟨0, 0, Nat.zero_le _, rfl, rfl, rfl⟩
    case round =>
      obtain ⟨k, n, hk, rfl, heq, rfl⟩ := hrel
      have HE := hid heq; clear heq
      by_cases hlt : k < xs.length
      · have hlt2 : k < ys.length := by omega
        obtain ⟨ad, rfl, hcell⟩ := HC.out k hlt
        obtain ⟨ad2, rfl, hcell2⟩ := HC2.out k hlt2
        have hi1 : (k : Int) < (xs.length : Int) := by omega
        have hi2 : (k : Int) < (ys.length : Int) := by omega
        by_cases hv : xs[k] = ys[k]
        · have HV := hid hv
          have hb : (xs[k] != ys[k]) = false := by simp [hv]
          clear hv
          go_wp2
          go_quiet (fail)
          go_wp2
          go_roundw
          case rel => exact ⟨k + 1, n + nq, hlt, by go_num, by rw [take_snoc xs k hlt, take_snoc ys k hlt2, HE.out, HV.out], by simp⟩
          case measure => simp [intOf]; omega
        · have hb : (xs[k] != ys[k]) = true := by simp [hv]
          have HN := hid hv; clear hv
          go_wp2
          go_quiet (fail)
          go_wp2
          go_ret
          exact ⟨ret_bool (by symm; unfold eqL; rw [decide_eq_false_iff_not]; intro e; subst e; exact HN.out rfl), ⟨n + nq, by simp⟩⟩
      · go_wp2
        go_ret
        exact ⟨ret_bool (by symm; unfold eqL; rw [decide_eq_true_iff, ← take_all xs k (by omega), HE.out, take_all ys k (by have := HL.out; omega)]), ⟨n, rfl⟩⟩
  · have hne : ((xs.length : Int) != (ys.length : Int)) = true := by simp; omega
    go_enter Try.func86, Try.ntmps86
    go_wp2
    go_ret
    exact ⟨ret_bool (by symm; unfold eqL; rw [decide_eq_false_iff_not]; intro e; subst e; exact hlen rfl), Drew.refl w⟩
theorem l1Same_as {u v : Value} {xs ys : List Int} {w : World} {b : Bool} (hb : eqL xs ys = b) (hx : Ints w u xs) (hy : Ints w v ys) :
    Calls Try.prog 86 #[u, v] w fun e w' => e = .returned (.bool b) ∧ Drew w w' := by
  subst hb; exact l1Same_any u v xs ys w hx hy

set_option maxHeartbeats 400000 in
theorem slicesEqual_any (u v : Value) (xs ys : List Int) (w : World) (hx : Ints w u xs) (hy : Ints w v ys) :
    Calls Try.prog 114 #[u, v] w fun e w' => e = .returned (.bool (eqL xs ys)) ∧ Drew w w' := by
  obtain ⟨a, cap, rfl, hl, hc⟩ := hx
  obtain ⟨b, cap2, rfl, hl2, hc2⟩ := hy
  have HC := hid hc
  have HC2 := hid hc2; clear hc hc2
  by_cases hlen : xs.length = ys.length
  · have HL := hid hlen
    have hne : ((xs.length : Int) != (ys.length : Int)) = false := by simp [hlen]
    have hle : xs.length ≤ ys.length := by omega
    clear hlen
    go_enter Try.func114, Try.ntmps114
    go_wp2
    go_loopw [13] (fun i wr => ∃ k n : Nat, k ≤ xs.length ∧ i = .int .i64 k ∧ xs.take k = ys.take k ∧ wr = w.drewN n) (fun i _ => xs.length - (intOf i).toNat)
    case atStart => exact ⟨0, 0, Nat.zero_le _, rfl, rfl, rfl⟩
    case round =>
      obtain ⟨k, n, hk, rfl, heq, rfl⟩ := hrel
      have HE := hid heq; clear heq
      by_cases hlt : k < xs.length
      · have hlt2 : k < ys.length := by omega
        obtain ⟨ad, rfl, hcell⟩ := HC.out k hlt
        obtain ⟨ad2, rfl, hcell2⟩ := HC2.out k hlt2
        have hi1 : (k : Int) < (xs.length : Int) := by omega
        have hi2 : (k : Int) < (ys.length : Int) := by omega
        by_cases hv : xs[k] = ys[k]
        · have HV := hid hv
          have hb : (xs[k] != ys[k]) = false := by simp [hv]
          clear hv
          go_wp2
          go_quiet (fail)
          go_wp2
          go_roundw
          case rel => exact ⟨k + 1, n + nq, hlt, by go_num, by rw [take_snoc xs k hlt, take_snoc ys k hlt2, HE.out, HV.out], by simp⟩
          case measure => simp [intOf]; omega
        · have hb : (xs[k] != ys[k]) = true := by simp [hv]
          have HN := hid hv; clear hv
          go_wp2
          go_quiet (fail)
          go_wp2
          go_ret
          exact ⟨ret_bool (by symm; unfold eqL; rw [decide_eq_false_iff_not]; intro e; subst e; exact HN.out rfl), ⟨n + nq, by simp⟩⟩
      · go_wp2
        go_ret
        exact ⟨ret_bool (by symm; unfold eqL; rw [decide_eq_true_iff, ← take_all xs k (by omega), HE.out, take_all ys k (by have := HL.out; omega)]), ⟨n, rfl⟩⟩
  · have hne : ((xs.length : Int) != (ys.length : Int)) = true := by simp; omega
    go_enter Try.func114, Try.ntmps114
    go_wp2
    go_ret
    exact ⟨ret_bool (by symm; unfold eqL; rw [decide_eq_false_iff_not]; intro e; subst e; exact hlen rfl), Drew.refl w⟩
theorem slicesEqual_as {u v : Value} {xs ys : List Int} {w : World} {b : Bool} (hb : eqL xs ys = b) (hx : Ints w u xs) (hy : Ints w v ys) :
    Calls Try.prog 114 #[u, v] w fun e w' => e = .returned (.bool b) ∧ Drew w w' := by
  subst hb; exact slicesEqual_any u v xs ys w hx hy

def symW (m : List (List Int)) : Bool := eqLL m (transM m.length m)
end Go.Proofs.Ytefngijgoldjmab
