/- Contracts of the comparisons of lists and of grids, and of IsSymmetric. -/
import Derived.Test.YtmlnpnglafipbabAnswer
namespace Go.Proofs.Ytmlnpnglafipbab
open Go.RowKit

set_option maxHeartbeats 400000 in
theorem l1Same_any (u v : Value) (xs ys : List Int) (w : World) (hx : Ints w u xs) (hy : Ints w v ys) :
    Calls Try.prog 111 #[u, v] w fun e w' => e = .returned (.bool (eqL xs ys)) ∧ Drew w w' := by
  obtain ⟨a, cap, rfl, hl, hc⟩ := hx
  obtain ⟨b, cap2, rfl, hl2, hc2⟩ := hy
  have HC := hid hc
  have HC2 := hid hc2; clear hc hc2
  by_cases hlen : xs.length = ys.length
  · have HL := hid hlen
    have hne : ((xs.length : Int) != (ys.length : Int)) = false := by simp [hlen]
    have hle : xs.length ≤ ys.length := by omega
    clear hlen
    go_enter Try.func111, Try.ntmps111
    go_wp2
    go_loopw [13] (fun i wr => ∃ k n : Nat, k ≤ xs.length ∧ i = .int .i64 k ∧ xs.take k = ys.take k ∧ wr = w.drewN n) (fun i _ => xs.length - (intOf i).toNat)
    case atStart => exact ⟨0, 0, Nat.zero_le _, rfl, rfl, rfl⟩
    case round =>
      obtain ⟨k, n, hk, rfl, heq, rfl⟩ := hrel
      have HE := hid heq; clear heq
      by_cases hlt : k < xs.length
      · have hlt2 : k < ys.length := by omega
        obtain ⟨ad, rfl, hcell⟩ := HC.out k hlt
        obtain ⟨ad2, rfl, hcell2⟩ := HC2.out k hlt2
        have hi1 : (k : Int) < (xs.length : Int) := by omega
        have hi2 : (k : Int) < (ys.length : Int) := by omega
        by_cases hv : xs[k] = ys[k]
        · have HV := hid hv
          have hb : (xs[k] != ys[k]) = false := by simp [hv]
          clear hv
          go_wp2
          go_quiet (fail)
          go_wp2
          go_roundw
          case rel => exact ⟨k + 1, n + nq, hlt, by go_num, by rw [take_snoc xs k hlt, take_snoc ys k hlt2, HE.out, HV.out], by simp⟩
          case measure => simp [intOf]; omega
        · have hb : (xs[k] != ys[k]) = true := by simp [hv]
          have HN := hid hv; clear hv
          go_wp2
          go_quiet (fail)
          go_wp2
          go_ret
          exact ⟨ret_bool (by symm; unfold eqL; rw [decide_eq_false_iff_not]; intro e; subst e; exact HN.out rfl), ⟨n + nq, by simp⟩⟩
      · go_wp2
        go_ret
        exact ⟨ret_bool (by symm; unfold eqL; rw [decide_eq_true_iff, ← take_all xs k (by omega), HE.out, take_all ys k (by have := HL.out; omega)]), ⟨n, rfl⟩⟩
  · have hne : ((xs.length : Int) != (ys.length : Int)) = true := by simp; omega
    go_enter Try.func111, Try.ntmps111
    go_wp2
    go_ret
    exact ⟨ret_bool (by symm; unfold eqL; rw [decide_eq_false_iff_not]; intro e; subst e; exact hlen rfl), Drew.refl w⟩
theorem l1Same_as {u v : Value} {xs ys : List Int} {w : World} {b : Bool} (hb : eqL xs ys = b) (hx : Ints w u xs) (hy : Ints w v ys) :
    Calls Try.prog 111 #[u, v] w fun e w' => e = .returned (.bool b) ∧ Drew w w' := by
  subst hb; exact l1Same_any u v xs ys w hx hy

set_option maxHeartbeats 400000 in
theorem slicesEqual_any (u v : Value) (xs ys : List Int) (w : World) (hx : Ints w u xs) (hy : Ints w v ys) :
    Calls Try.prog 120 #[u, v] w fun e w' => e = .returned (.bool (eqL xs ys)) ∧ Drew w w' := by
  obtain ⟨a, cap, rfl, hl, hc⟩ := hx
  obtain ⟨b, cap2, rfl, hl2, hc2⟩ := hy
  have HC := hid hc
  have HC2 := hid hc2; clear hc hc2
  by_cases hlen : xs.length = ys.length
  · have HL := hid hlen
    have hne : ((xs.length : Int) != (ys.length : Int)) = false := by simp [hlen]
    have hle : xs.length ≤ ys.length := by omega
    clear hlen
    go_enter Try.func120, Try.ntmps120
    go_wp2
    go_loopw [13] (fun i wr => ∃ k n : Nat, k ≤ xs.length ∧ i = .int .i64 k ∧ xs.take k = ys.take k ∧ wr = w.drewN n) (fun i _ => xs.length - (intOf i).toNat)
    case atStart => exact ⟨0, 0, Nat.zero_le _, rfl, rfl, rfl⟩
    case round =>
      obtain ⟨k, n, hk, rfl, heq, rfl⟩ := hrel
      have HE := hid heq; clear heq
      by_cases hlt : k < xs.length
      · have hlt2 : k < ys.length := by omega
        obtain ⟨ad, rfl, hcell⟩ := HC.out k hlt
        obtain ⟨ad2, rfl, hcell2⟩ := HC2.out k hlt2
        have hi1 : (k : Int) < (xs.length : Int) := by omega
        have hi2 : (k : Int) < (ys.length : Int) := by omega
        by_cases hv : xs[k] = ys[k]
        · have HV := hid hv
          have hb : (xs[k] != ys[k]) = false := by simp [hv]
          clear hv
          go_wp2
          go_quiet (fail)
          go_wp2
          go_roundw
          case rel => exact ⟨k + 1, n + nq, hlt, by go_num, by rw [take_snoc xs k hlt, take_snoc ys k hlt2, HE.out, HV.out], by simp⟩
          case measure => simp [intOf]; omega
        · have hb : (xs[k] != ys[k]) = true := by simp [hv]
          have HN := hid hv; clear hv
          go_wp2
          go_quiet (fail)
          go_wp2
          go_ret
          exact ⟨ret_bool (by symm; unfold eqL; rw [decide_eq_false_iff_not]; intro e; subst e; exact HN.out rfl), ⟨n + nq, by simp⟩⟩
      · go_wp2
        go_ret
        exact ⟨ret_bool (by symm; unfold eqL; rw [decide_eq_true_iff, ← take_all xs k (by omega), HE.out, take_all ys k (by have := HL.out; omega)]), ⟨n, rfl⟩⟩
  · have hne : ((xs.length : Int) != (ys.length : Int)) = true := by simp; omega
    go_enter Try.func120, Try.ntmps120
    go_wp2
    go_ret
    exact ⟨ret_bool (by symm; unfold eqL; rw [decide_eq_false_iff_not]; intro e; subst e; exact hlen rfl), Drew.refl w⟩
theorem slicesEqual_as {u v : Value} {xs ys : List Int} {w : World} {b : Bool} (hb : eqL xs ys = b) (hx : Ints w u xs) (hy : Ints w v ys) :
    Calls Try.prog 120 #[u, v] w fun e w' => e = .returned (.bool b) ∧ Drew w w' := by
  subst hb; exact slicesEqual_any u v xs ys w hx hy

set_option maxHeartbeats 1000000 in
theorem equalFunc_any (u v : Value) (xs ys : List (List Int)) (w : World) (hx : Rows2 w u xs) (hy : Rows2 w v ys) :
    Calls Try.prog 119 #[u, v, .func (.func 120) #[] #[]] w fun e w' => e = .returned (.bool (eqLL xs ys)) ∧ Drew w w' := by
  obtain ⟨a, cap, rfl, hl, hc⟩ := hx
  obtain ⟨b, cap2, rfl, hl2, hc2⟩ := hy
  have HC := hid hc
  have HC2 := hid hc2; clear hc hc2
  by_cases hlen : xs.length = ys.length
  · have HL := hid hlen
    have hne : ((xs.length : Int) != (ys.length : Int)) = false := by simp [hlen]
    have hle : xs.length ≤ ys.length := by omega
    clear hlen
    go_enter Try.func119, Try.ntmps119
    go_wp2_with fail
    go_loopw [17] (fun i wr => ∃ k : Nat, k ≤ xs.length ∧ i = .int .i64 k ∧ xs.take k = ys.take k ∧ Drew w wr) (fun i _ => xs.length - (intOf i).toNat)
    case atStart => exact ⟨0, Nat.zero_le _, rfl, rfl, Drew.refl w⟩
    case round =>
      obtain ⟨k, hk, rfl, heq, hdr⟩ := hrel
      have HD := hid hdr; clear hdr
      have HE := hid heq; clear heq
      by_cases hlt : k < xs.length
      · have hlt2 : k < ys.length := by omega
        obtain ⟨ad, u1, rfl, hcell, hu1⟩ := HC.out k hlt
        obtain ⟨ad2, u2, rfl, hcell2, hu2⟩ := HC2.out k hlt2
        have hi1 : (k : Int) < (xs.length : Int) := by omega
        have hi2 : (k : Int) < (ys.length : Int) := by omega
        have HU1 := hid (hu1.later HD.out.later)
        have HU2 := hid (hu2.later HD.out.later)
        have hcellr := HD.out.later.cell hcell
        have hcellr2 := HD.out.later.cell hcell2
        clear hu1 hu2 hcell hcell2
        cases hv : eqL (xs.getD k []) (ys.getD k [])
        · have HV := hid hv; clear hv
          go_wp2_with fail
          refine (slicesEqual_as HV.out HU1.out HU2.out).mono ?_
          rintro e w2 ⟨rfl, n, rfl⟩
          go_wp2_with fail
          go_ret
          exact ⟨ret_bool (eqLL_false k HV.out).symm, HD.out.step n⟩
        · have HV := hid hv; clear hv
          go_wp2_with fail
          refine (slicesEqual_as HV.out HU1.out HU2.out).mono ?_
          rintro e w2 ⟨rfl, n, rfl⟩
          go_wp2_with fail
          go_roundw
          case rel => exact ⟨k + 1, hlt, by go_num, by
              have h3 := HV.out
              unfold eqL at h3
              rw [decide_eq_true_iff] at h3
              simp only [List.getD_eq_getElem?_getD, List.getElem?_eq_getElem hlt, List.getElem?_eq_getElem hlt2, Option.getD_some] at h3
              rw [take_snoc xs k hlt, take_snoc ys k hlt2, HE.out, h3], HD.out.step n⟩
          case measure => simp [intOf]; omega
      · go_wp2_with fail
        go_ret
        exact ⟨ret_bool (by symm; unfold eqLL; rw [decide_eq_true_iff, ← take_all xs k (by omega), HE.out, take_all ys k (by have := HL.out; omega)]), HD.out⟩
  · have hne : ((xs.length : Int) != (ys.length : Int)) = true := by simp; omega
    go_enter Try.func119, Try.ntmps119
    go_wp2_with fail
    go_ret
    exact ⟨ret_bool (by symm; unfold eqLL; rw [decide_eq_false_iff_not]; intro e; subst e; exact hlen rfl), Drew.refl w⟩

theorem equals_any (u v : Value) (xs ys : List (List Int)) (w : World) (hx : Rows2 w u xs) (hy : Rows2 w v ys) :
    Calls Try.prog 74 #[u, v] w fun e w' => e = .returned (.bool (eqLL xs ys)) ∧ Later w w' := by
  have HX := hid hx
  have HY := hid hy
  clear hx hy
  go_enter Try.func74, Try.ntmps74
  go_wp2_with fail
  refine (equalFunc_any u v xs ys _ HX.out HY.out).mono ?_
  rintro e w1 ⟨rfl, hw⟩
  have HW := hid hw.later; clear hw
  go_wp2_with fail
  go_ret
  exact ⟨rfl, HW.out⟩

def symW (m : List (List Int)) : Bool := eqLL m (transM m.length m)
theorem isSymmetricGrid_any (m : List (List Int)) (hq : Sq m.length m) (hn : m.length ≤ 1048576) (v : Value) (w : World) (h : Rows2 w v m) :
    Calls Try.prog 114 #[v] w fun e w' => e = .returned (.bool (symW m)) ∧ Later w w' := by
  have H := hid h
  clear h
  go_enter Try.func114, Try.ntmps114
  go_wp2_with fail
  refine (transposed_any m.length m hq v _ hn H.out).mono ?_
  rintro e w1 ⟨v1, rfl, ho, hL⟩
  have HL := hid hL
  have HO := hid ho.rows
  clear hL ho
  go_wp2_with fail
  refine (equals_any _ _ _ _ _ (H.out.later HL.out) HO.out).mono ?_
  rintro e w2 ⟨rfl, hL⟩
  have HL2 := hid (HL.out.trans hL)
  clear hL
  go_wp2_with fail
  go_ret
  exact ⟨rfl, HL2.out⟩
end Go.Proofs.Ytmlnpnglafipbab
