/- Right triples in the program: slices.Equal, RootOf, the sides as a slice, the pair of a list. -/
import Derived.Test.YtdahhcigphhfdacRiV
import Derived.Test.YtdahhcigphhfdacLayCloneI
import Derived.Test.YtdahhcigphhfdacRowsKI
import Derived.Deep.RegionHeld3
namespace Go.Proofs.Ytdahhcigphhfdac
open Go.RowKit

set_option maxHeartbeats 400000 in
theorem slEqual_any (u v : Value) (xs ys : List Int) (w : World) (hx : Ints w u xs) (hy : Ints w v ys) :
    Calls Try.prog 110 #[u, v] w fun e w' => e = .returned (.bool (eqL xs ys)) ∧ Drew w w' := by
  obtain ⟨a, cap, rfl, hl, hc⟩ := hx
  obtain ⟨b, cap2, rfl, hl2, hc2⟩ := hy
  have HC := hid hc
  have HC2 := hid hc2; clear hc hc2
  by_cases hlen : xs.length = ys.length
  · have HL := hid hlen
    have hne : ((xs.length : Int) != (ys.length : Int)) = false := by simp [hlen]
    have hle : xs.length ≤ ys.length := by omega
    clear hlen
    go_enter Try.func110, Try.ntmps110
    go_wp2
    go_loopw [13] (fun i wr => ∃ k n : Nat, k ≤ xs.length ∧ i = .int .i64 k ∧ xs.take k = ys.take k ∧ wr = w.drewN n) (fun i _ => xs.length - (intOf i).toNat)
    case atStart => exact ⟨0, 0, Nat.zero_le _, rfl, rfl, rfl⟩
    case round =>
      obtain ⟨k, n, hk, rfl, heq, rfl⟩ := hrel
      have HE := hid heq; clear heq
      by_cases hlt : k < xs.length
      · have hlt2 : k < ys.length := by omega
        obtain ⟨ad, rfl, hcell⟩ := HC.out k hlt
        obtain ⟨ad2, rfl, hcell2⟩ := HC2.out k hlt2
        have hi1 : (k : Int) < (xs.length : Int) := by omega
        have hi2 : (k : Int) < (ys.length : Int) := by omega
        by_cases hv : xs[k] = ys[k]
        · have HV := hid hv
          have hb : (xs[k] != ys[k]) = false := by simp [hv]
          clear hv
          go_wp2
          go_quiet (fail)
          go_wp2
          go_roundw
          case rel => exact ⟨k + 1, n + nq, hlt, by go_num, by rw [take_snoc xs k hlt, take_snoc ys k hlt2, HE.out, HV.out], by simp⟩
          case measure => simp [intOf]; omega
        · have hb : (xs[k] != ys[k]) = true := by simp [hv]
          have HN := hid hv; clear hv
          go_wp2
          go_quiet (fail)
          go_wp2
          go_ret
          exact ⟨ret_bool (by symm; unfold eqL; rw [decide_eq_false_iff_not]; intro e; subst e; exact HN.out rfl), ⟨n + nq, by simp⟩⟩
      · go_wp2
        go_ret
        exact ⟨ret_bool (by symm; unfold eqL; rw [decide_eq_true_iff, ← take_all xs k (by omega), HE.out, take_all ys k (by have := HL.out; omega)]), ⟨n, rfl⟩⟩
  · have hne : ((xs.length : Int) != (ys.length : Int)) = true := by simp; omega
    go_enter Try.func110, Try.ntmps110
    go_wp2
    go_ret
    exact ⟨ret_bool (by symm; unfold eqL; rw [decide_eq_false_iff_not]; intro e; subst e; exact hlen rfl), Drew.refl w⟩

set_option maxHeartbeats 1000000 in
theorem implRootOfQ_any (n : Int) (w : World) :
    Calls Try.prog 109 #[.int .i64 n] w fun e w' => e = .returned (.tuple #[.int .i64 ((rootAns n).getD 0), .bool (rootAns n).isSome]) ∧ w = w' := by
  by_cases h0 : n < 0
  · have HA := hid (show rootAns n = none by unfold rootAns; rw [if_neg (by omega)])
    go_enter Try.func109, Try.ntmps109
    go_wp2_with fail
    go_ret2
    exact ⟨by rw [HA.out]; rfl, rfl⟩
  · by_cases h1 : 1000000000000000000 < n
    · have HA := hid (show rootAns n = none by unfold rootAns; rw [if_neg (by omega)])
      go_enter Try.func109, Try.ntmps109
      go_wp2_with fail
      go_ret2
      exact ⟨by rw [HA.out]; rfl, rfl⟩
    · have HA := hid (show rootAns n = some (rootN n.toNat : Int) by unfold rootAns; rw [if_pos (by omega)])
      obtain ⟨m, rfl⟩ : ∃ m : Nat, n = (m : Int) := ⟨n.toNat, by omega⟩
      have hm : m ≤ 1000000000000000000 := by omega
      go_enter Try.func109, Try.ntmps109
      go_wp2_with fail
      go_loop [4, 5] (fun x y => ∃ l h : Nat, x = .int .i64 l ∧ y = .int .i64 h ∧ l ≤ h ∧ h ≤ 1000000000 ∧ l * l ≤ m ∧ m < (h + 1) * (h + 1)) (fun x y => (intOf y).toNat - (intOf x).toNat)
      case atStart => exact ⟨0, 1000000000, rfl, rfl, by omega, by omega, by omega, sq_lt_of m _ hm (by omega)⟩
      case round =>
        obtain ⟨l, h, rfl, rfl, hlh, hh, hl2, hh2⟩ := hrel
        have HL2 := hid hl2
        have HH2 := hid hh2
        clear hl2 hh2
        by_cases hgt : l < h
        · obtain ⟨k, hk⟩ : ∃ k : Nat, k = (l + h + 1) / 2 := ⟨_, rfl⟩
          have hmi : ((l : Int) + (h : Int) + 1) / 2 = (k : Int) := by omega
          have hml : l < k := by omega
          have hmh : k ≤ h := by omega
          have hsq : k * k ≤ 1000000002000000001 := by have := Nat.mul_le_mul (show k ≤ 1000000001 by omega) (show k ≤ 1000000001 by omega); omega
          have p0 : (0 : Int) ≤ (k : Int) * (k : Int) := by rw [← Int.natCast_mul]; omega
          have p1 : (k : Int) * (k : Int) ≤ 1000000002000000001 := by rw [← Int.natCast_mul]; omega
          by_cases hle : (k : Int) * (k : Int) ≤ (m : Int)
          · have HLE := hid (show k * k ≤ m by rw [← Int.natCast_mul] at hle; omega)
            clear hk hsq
            go_wp2_with fail
            go_round
            case rel => exact ⟨k, h, by rw [hmi], rfl, hmh, hh, HLE.out, HH2.out⟩
            case measure => simp [intOf]; omega
          · have HLE := hid (show m < (k - 1 + 1) * (k - 1 + 1) by rw [← Int.natCast_mul] at hle; rw [show k - 1 + 1 = k by omega]; omega)
            clear hk hsq
            go_wp2_with fail
            go_round
            case rel => exact ⟨l, k - 1, rfl, by go_num, by omega, by omega, HL2.out, HLE.out⟩
            case measure => simp [intOf]; omega
        · have hh1 : h = l := by omega
          have HR := hid (show rootN m = l by rw [rootN_eq m l HL2.out (by rw [← hh1]; exact HH2.out)])
          clear hh1
          go_wp2_with fail
          go_ret2
          exact ⟨by rw [HA.out, Int.toNat_natCast, HR.out]; rfl, rfl⟩


theorem Arr5.sides {w : World} {b : Nat} {m n : Int} (h : Arr5 w b (.int .i64 m) (.int .i64 n) (.int .i64 (m * m - n * n)) (.int .i64 (2 * m * n)) (.int .i64 (m * m + n * n))) :
    Ints w (.slice (some ⟨b, 2, none⟩) 3 3) (sidesL m n) := by
  refine ⟨_, _, rfl, by simp [sidesL], fun i hi => ⟨_, rfl, ?_⟩⟩
  have e : (⟨b, 2, none⟩ : Addr).add i = ⟨b, 2 + i, none⟩ := by unfold Addr.add; split <;> simp_all
  rw [e]
  have hi3 : i = 0 ∨ i = 1 ∨ i = 2 := by simp [sidesL] at hi; omega
  rcases hi3 with rfl | rfl | rfl
  · exact h.c2
  · exact h.c3
  · exact h.c4

theorem OwnInts.nothingR (lo hi : Nat) (w : World) : OwnInts lo hi w (.slice none 0 0) [] := ⟨World.ownsRow_nil _ _ _ _, fun b hb => by simp [Value.ownBlock] at hb⟩
set_option maxRecDepth 20000 in
set_option maxHeartbeats 2000000 in
theorem rtList_any (m n : Int) (w : World) :
    Calls Try.prog 107 #[.agg (rtV m n).toArray] w fun e w' => MadeInts w (sidesL m n) e w' := by
  have HL := hid (Later.alloc w (.cells (rtV m n).toArray 69))
  have HA := hid (arr5_alloc w (.int .i64 m) (.int .i64 n) (.int .i64 (m * m - n * n)) (.int .i64 (2 * m * n)) (.int .i64 (m * m + n * n)) 69)
  obtain ⟨c0, c1, c2, c3, c4⟩ := HA.out
  unfold rtV at HL ⊢
  go_enter Try.func107, Try.ntmps107
  go_wp2_with fail
  generalize w.alloc (.cells #[.int .i64 m, .int .i64 n, .int .i64 (m * m - n * n), .int .i64 (2 * m * n), .int .i64 (m * m + n * n)] 69) = w2 at c0 c1 c2 c3 c4 HL HA ⊢
  refine (Any.slices_Clone_int laysLays215 w.heap.size 2 3 3 (sidesL m n) w2 (by simp [sidesL]) (by omega) (fun j hj => ?_)).mono ?_
  · have hi3 : j = 0 ∨ j = 1 ∨ j = 2 := by simp [sidesL] at hj; omega
    rcases hi3 with rfl | rfl | rfl
    · exact c2
    · exact c3
    · exact c4
  rintro e w3 ⟨v3, rfl, ho, _, hb⟩
  have HL3 := hid (HL.out.trans hb)
  have HO : Hid (OwnInts w2.heap.size w3.heap.size w3 v3 (sidesL m n)) := hid (OwnInts.ofH ho (by rw [List.take_of_length_le (by simp [sidesL])]))
  clear hb ho
  go_wp2_with fail
  go_ret
  exact ⟨_, rfl, HO.out.wide HL.out.size (Nat.le_refl _), HL3.out⟩

set_option maxRecDepth 20000 in
set_option maxHeartbeats 2000000 in
/-- sidesOf at what triple leaves. -/
theorem sidesOf_any (m n : Int) (w : World) (v : Value) (ok : Bool) (hv : tripV m n = .tuple #[v, .bool ok]) :
    Calls Try.prog 62 #[v, .bool ok] w fun e w' => IntsAns w (tripAns m n) e w' := by
  cases hp : pairB m n
  · have hv2 : tripV m n = .tuple #[.agg zero5.toArray, .bool false] := by unfold tripV; rw [hp]; simp
    rw [hv2] at hv
    simp only [Value.tuple.injEq, Array.mk.injEq, List.cons.injEq, Value.bool.injEq, and_true] at hv
    obtain ⟨rfl, rfl⟩ := hv
    have HA := hid (tripAns_no hp)
    have HL := hid (Later.alloc w (.cells zero5.toArray 69))
    unfold zero5 at HL ⊢
    clear hv2 hp
    go_enter Try.func62, Try.ntmps62
    go_wp2_with fail
    go_ret2
    rw [HA.out]
    exact ⟨_, rfl, OwnInts.nothingR _ _ _, HL.out⟩
  · have hv2 : tripV m n = .tuple #[.agg (rtV m n).toArray, .bool true] := by unfold tripV; rw [if_pos hp]
    rw [hv2] at hv
    simp only [Value.tuple.injEq, Array.mk.injEq, List.cons.injEq, Value.bool.injEq, and_true] at hv
    obtain ⟨rfl, rfl⟩ := hv
    have HA := hid (tripAns_yes (pairB_iff.1 hp))
    have HC := hid (fun w0 => rtList_any m n w0)
    have HL := hid (Later.alloc w (.cells (rtV m n).toArray 69))
    have HB := hid (arr5_alloc w (.int .i64 m) (.int .i64 n) (.int .i64 (m * m - n * n)) (.int .i64 (2 * m * n)) (.int .i64 (m * m + n * n)) 69)
    obtain ⟨c0, c1, c2, c3, c4⟩ := HB.out
    unfold rtV at HL HC ⊢
    clear hv2 hp HB
    go_enter Try.func62, Try.ntmps62
    go_wp2_with fail
    generalize w.alloc (.cells #[.int .i64 m, .int .i64 n, .int .i64 (m * m - n * n), .int .i64 (2 * m * n), .int .i64 (m * m + n * n)] 69) = w2 at c0 c1 c2 c3 c4 HL ⊢
    refine (HC.out _).mono ?_
    rintro e w3 ⟨v3, rfl, ho, hL3⟩
    have HO := hid (ho.wide HL.out.size (Nat.le_refl _))
    have HL3 := hid (HL.out.trans hL3)
    clear ho hL3 c0 c1 c2 c3 c4
    go_wp2_with fail
    go_ret2
    rw [HA.out]
    exact ⟨_, rfl, HO.out, HL3.out⟩
end Go.Proofs.Ytdahhcigphhfdac
