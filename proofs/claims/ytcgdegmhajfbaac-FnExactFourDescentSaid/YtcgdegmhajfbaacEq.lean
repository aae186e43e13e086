/- Contracts of the comparisons and of the marks: eqIntS, eqIntSS, eqMatrix, markIntS .., heldIntS .. -/
import Derived.Test.YtcgdegmhajfbaacCopy
namespace Go.Proofs.Ytcgdegmhajfbaac
open Go.RowKit

/-- The world after some draws. -/
def Drew (w w' : World) : Prop := ∃ n, w' = w.drewN n
theorem Drew.refl (w : World) : Drew w w := ⟨0, rfl⟩
theorem Drew.later {w w' : World} (h : Drew w w') : Later w w' := by
  obtain ⟨n, rfl⟩ := h; exact Later.drewN w n
theorem Drew.step {w w' : World} (h : Drew w w') (n : Nat) : Drew w (w'.drewN n) := by
  obtain ⟨m, rfl⟩ := h; exact ⟨m + n, by simp⟩
theorem Ints.drewN {w : World} {v : Value} {zs : List Int} (h : Ints w v zs) (n : Nat) : Ints (w.drewN n) v zs := h.later (Later.drewN w n)
theorem Rows2.drewN {w : World} {v : Value} {zs : List (List Int)} (h : Rows2 w v zs) (n : Nat) : Rows2 (w.drewN n) v zs := h.later (Later.drewN w n)

def eqL (xs ys : List Int) : Bool := decide (xs = ys)
def eqLL (xs ys : List (List Int)) : Bool := decide (xs = ys)

theorem list_eq_of {α : Type} {xs ys : List α} (hl : xs.length = ys.length) (h : ∀ i (hx : i < xs.length) (hy : i < ys.length), xs[i] = ys[i]) : xs = ys :=
  List.ext_getElem hl h

set_option maxHeartbeats 400000 in
theorem eqIntS_any (u v : Value) (xs ys : List Int) (w : World) (hx : Ints w u xs) (hy : Ints w v ys) :
    Calls Try.prog 17 #[u, v] w fun e w' => e = .returned (.bool (eqL xs ys)) ∧ Drew w w' := by
  obtain ⟨a, cap, rfl, hl, hc⟩ := hx
  obtain ⟨b, cap2, rfl, hl2, hc2⟩ := hy
  have HC := hid hc
  have HC2 := hid hc2; clear hc hc2
  by_cases hlen : xs.length = ys.length
  · have HL := hid hlen
    have hne : ((xs.length : Int) != (ys.length : Int)) = false := by simp [hlen]
    have hle : xs.length ≤ ys.length := by omega
    clear hlen
    go_enter Try.func17, Try.ntmps17
    go_wp2
    go_loopw [5] (fun i wr => ∃ k n : Nat, k ≤ xs.length ∧ i = .int .i64 k ∧ xs.take k = ys.take k ∧ wr = w.drewN n) (fun i _ => xs.length - (intOf i).toNat)
    case atStart => exact ⟨0, 0, Nat.zero_le _, rfl, rfl, rfl⟩
    case round =>
      obtain ⟨k, n, hk, rfl, heq, rfl⟩ := hrel
      have HE := hid heq; clear heq
      by_cases hlt : k < xs.length
      · have hlt2 : k < ys.length := by omega
        obtain ⟨ad, rfl, hcell⟩ := HC.out k hlt
        obtain ⟨ad2, rfl, hcell2⟩ := HC2.out k hlt2
        have hi1 : (k : Int) < (xs.length : Int) := by omega
        have hi2 : (k : Int) < (ys.length : Int) := by omega
        by_cases hv : xs[k] = ys[k]
        · have HV := hid hv
          have hb : (xs[k] != ys[k]) = false := by simp [hv]
          clear hv
          go_wp2
          go_quiet (fail)
          go_wp2
          go_roundw
          case rel => exact ⟨k + 1, n + nq, hlt, by go_num, by rw [take_snoc xs k hlt, take_snoc ys k hlt2, HE.out, HV.out], by simp⟩
          case measure => simp [intOf]; omega
        · have hb : (xs[k] != ys[k]) = true := by simp [hv]
          have HN := hid hv; clear hv
          go_wp2
          go_quiet (fail)
          go_wp2
          go_ret
          exact ⟨ret_bool (by symm; unfold eqL; rw [decide_eq_false_iff_not]; intro e; subst e; exact HN.out rfl), ⟨n + nq, by simp⟩⟩
      · go_wp2
        go_ret
        exact ⟨ret_bool (by symm; unfold eqL; rw [decide_eq_true_iff, ← take_all xs k (by omega), HE.out, take_all ys k (by have := HL.out; omega)]), ⟨n, rfl⟩⟩
  · have hne : ((xs.length : Int) != (ys.length : Int)) = true := by simp; omega
    go_enter Try.func17, Try.ntmps17
    go_wp2
    go_ret
    exact ⟨ret_bool (by symm; unfold eqL; rw [decide_eq_false_iff_not]; intro e; subst e; exact hlen rfl), Drew.refl w⟩

theorem eqIntS_same {u v : Value} {xs ys : List Int} {w : World} {b : Bool} (hb : eqL xs ys = b) (hx : Ints w u xs) (hy : Ints w v ys) :
    Calls Try.prog 17 #[u, v] w fun e w' => e = .returned (.bool b) ∧ ∃ n, w' = w.drewN n := by
  subst hb; exact eqIntS_any u v xs ys w hx hy

theorem eqLL_false {xs ys : List (List Int)} (k : Nat) (hn : eqL (xs.getD k []) (ys.getD k []) = false) : eqLL xs ys = false := by
  unfold eqLL; unfold eqL at hn
  rw [decide_eq_false_iff_not] at hn ⊢
  intro e; subst e; exact hn rfl

set_option maxHeartbeats 400000 in
theorem eqIntSS_any (u v : Value) (xs ys : List (List Int)) (w : World) (hx : Rows2 w u xs) (hy : Rows2 w v ys) :
    Calls Try.prog 9 #[u, v] w fun e w' => e = .returned (.bool (eqLL xs ys)) ∧ Drew w w' := by
  obtain ⟨a, cap, rfl, hl, hc⟩ := hx
  obtain ⟨b, cap2, rfl, hl2, hc2⟩ := hy
  have HC := hid hc
  have HC2 := hid hc2; clear hc hc2
  by_cases hlen : xs.length = ys.length
  · have HL := hid hlen
    have hne : ((xs.length : Int) != (ys.length : Int)) = false := by simp [hlen]
    have hle : xs.length ≤ ys.length := by omega
    clear hlen
    go_enter Try.func9, Try.ntmps9
    go_wp2
    go_loopw [5] (fun i wr => ∃ k : Nat, k ≤ xs.length ∧ i = .int .i64 k ∧ xs.take k = ys.take k ∧ Drew w wr) (fun i _ => xs.length - (intOf i).toNat)
    case atStart => exact ⟨0, Nat.zero_le _, rfl, rfl, Drew.refl w⟩
    case round =>
      obtain ⟨k, hk, rfl, heq, hdr⟩ := hrel
      have HD := hid hdr; clear hdr
      have HE := hid heq; clear heq
      by_cases hlt : k < xs.length
      · have hlt2 : k < ys.length := by omega
        obtain ⟨ad, u1, rfl, hcell, hu1⟩ := HC.out k hlt
        obtain ⟨ad2, u2, rfl, hcell2, hu2⟩ := HC2.out k hlt2
        have hi1 : (k : Int) < (xs.length : Int) := by omega
        have hi2 : (k : Int) < (ys.length : Int) := by omega
        have HU1 := hid (hu1.later HD.out.later)
        have HU2 := hid (hu2.later HD.out.later)
        have hcellr := HD.out.later.cell hcell
        have hcellr2 := HD.out.later.cell hcell2
        clear hu1 hu2 hcell hcell2
        cases hv : eqL (xs.getD k []) (ys.getD k [])
        · have HV := hid hv; clear hv
          have HQ := hid (fun m => eqIntS_same HV.out (HU1.out.drewN m) (HU2.out.drewN m))
          go_wp2_with fail
          go_quiet ((go_at_call 17; exact Calls.quiet_of (HQ.out _)))
          go_wp2_with fail
          go_ret
          exact ⟨ret_bool (eqLL_false k HV.out).symm, HD.out.step nq⟩
        · have HV := hid hv; clear hv
          have HQ := hid (fun m => eqIntS_same HV.out (HU1.out.drewN m) (HU2.out.drewN m))
          go_wp2_with fail
          go_quiet ((go_at_call 17; exact Calls.quiet_of (HQ.out _)))
          go_wp2_with fail
          go_roundw
          case rel => exact ⟨k + 1, hlt, by go_num, by
              have h3 := HV.out
              unfold eqL at h3
              rw [decide_eq_true_iff] at h3
              simp only [List.getD_eq_getElem?_getD, List.getElem?_eq_getElem hlt, List.getElem?_eq_getElem hlt2, Option.getD_some] at h3
              rw [take_snoc xs k hlt, take_snoc ys k hlt2, HE.out, h3], HD.out.step nq⟩
          case measure => simp [intOf]; omega
      · go_wp2
        go_ret
        exact ⟨ret_bool (by symm; unfold eqLL; rw [decide_eq_true_iff, ← take_all xs k (by omega), HE.out, take_all ys k (by have := HL.out; omega)]), HD.out⟩
  · have hne : ((xs.length : Int) != (ys.length : Int)) = true := by simp; omega
    go_enter Try.func9, Try.ntmps9
    go_wp2
    go_ret
    exact ⟨ret_bool (by symm; unfold eqLL; rw [decide_eq_false_iff_not]; intro e; subst e; exact hlen rfl), Drew.refl w⟩

end Go.Proofs.Ytcgdegmhajfbaac
