/- Right triples in the program: slices.Equal, RootOf, the sides as a slice, the pair of a list. -/
import Derived.Test.YtkpnckcfoigceabRiV
import Derived.Test.YtkpnckcfoigceabLayCloneI
import Derived.Test.YtkpnckcfoigceabIntC
import Derived.Deep.RegionHeld3
namespace Go.Proofs.Ytkpnckcfoigceab
open Go.RowKit

theorem Arr5.sides {w : World} {b : Nat} {m n : Int} (h : Arr5 w b (.int .i64 m) (.int .i64 n) (.int .i64 (m * m - n * n)) (.int .i64 (2 * m * n)) (.int .i64 (m * m + n * n))) :
    Ints w (.slice (some ⟨b, 2, none⟩) 3 3) (sidesL m n) := by
  refine ⟨_, _, rfl, by simp [sidesL], fun i hi => ⟨_, rfl, ?_⟩⟩
  have e : (⟨b, 2, none⟩ : Addr).add i = ⟨b, 2 + i, none⟩ := by unfold Addr.add; split <;> simp_all
  rw [e]
  have hi3 : i = 0 ∨ i = 1 ∨ i = 2 := by simp [sidesL] at hi; omega
  rcases hi3 with rfl | rfl | rfl
  · exact h.c2
  · exact h.c3
  · exact h.c4

theorem OwnInts.nothingR (lo hi : Nat) (w : World) : OwnInts lo hi w (.slice none 0 0) [] := ⟨World.ownsRow_nil _ _ _ _, fun b hb => by simp [Value.ownBlock] at hb⟩
set_option maxRecDepth 20000 in
set_option maxHeartbeats 2000000 in
theorem rtList_any (m n : Int) (w : World) :
    Calls Try.prog 35 #[.agg (rtV m n).toArray] w fun e w' => MadeInts w (sidesL m n) e w' := by
  have HL := hid (Later.alloc w (.cells (rtV m n).toArray 50))
  have HA := hid (arr5_alloc w (.int .i64 m) (.int .i64 n) (.int .i64 (m * m - n * n)) (.int .i64 (2 * m * n)) (.int .i64 (m * m + n * n)) 50)
  obtain ⟨c0, c1, c2, c3, c4⟩ := HA.out
  unfold rtV at HL ⊢
  go_enter Try.func35, Try.ntmps35
  go_wp2_with fail
  generalize w.alloc (.cells #[.int .i64 m, .int .i64 n, .int .i64 (m * m - n * n), .int .i64 (2 * m * n), .int .i64 (m * m + n * n)] 50) = w2 at c0 c1 c2 c3 c4 HL HA ⊢
  refine (Any.slices_Clone_int laysLays215 w.heap.size 2 3 3 (sidesL m n) w2 (by simp [sidesL]) (by omega) (fun j hj => ?_)).mono ?_
  · have hi3 : j = 0 ∨ j = 1 ∨ j = 2 := by simp [sidesL] at hj; omega
    rcases hi3 with rfl | rfl | rfl
    · exact c2
    · exact c3
    · exact c4
  rintro e w3 ⟨v3, rfl, ho, _, hb⟩
  have HL3 := hid (HL.out.trans hb)
  have HO : Hid (OwnInts w2.heap.size w3.heap.size w3 v3 (sidesL m n)) := hid (OwnInts.ofH ho (by rw [List.take_of_length_le (by simp [sidesL])]))
  clear hb ho
  go_wp2_with fail
  go_ret
  exact ⟨_, rfl, HO.out.wide HL.out.size (Nat.le_refl _), HL3.out⟩

set_option maxRecDepth 20000 in
set_option maxHeartbeats 2000000 in
/-- sidesOf at what triple leaves. -/
theorem sidesOf_any (m n : Int) (w : World) (v : Value) (ok : Bool) (hv : tripV m n = .tuple #[v, .bool ok]) :
    Calls Try.prog 31 #[v, .bool ok] w fun e w' => IntsAns w (tripAns m n) e w' := by
  cases hp : pairB m n
  · have hv2 : tripV m n = .tuple #[.agg zero5.toArray, .bool false] := by unfold tripV; rw [hp]; simp
    rw [hv2] at hv
    simp only [Value.tuple.injEq, Array.mk.injEq, List.cons.injEq, Value.bool.injEq, and_true] at hv
    obtain ⟨rfl, rfl⟩ := hv
    have HA := hid (tripAns_no hp)
    have HL := hid (Later.alloc w (.cells zero5.toArray 50))
    unfold zero5 at HL ⊢
    clear hv2 hp
    go_enter Try.func31, Try.ntmps31
    go_wp2_with fail
    go_ret2
    rw [HA.out]
    exact ⟨_, rfl, OwnInts.nothingR _ _ _, HL.out⟩
  · have hv2 : tripV m n = .tuple #[.agg (rtV m n).toArray, .bool true] := by unfold tripV; rw [if_pos hp]
    rw [hv2] at hv
    simp only [Value.tuple.injEq, Array.mk.injEq, List.cons.injEq, Value.bool.injEq, and_true] at hv
    obtain ⟨rfl, rfl⟩ := hv
    have HA := hid (tripAns_yes (pairB_iff.1 hp))
    have HC := hid (fun w0 => rtList_any m n w0)
    have HL := hid (Later.alloc w (.cells (rtV m n).toArray 50))
    have HB := hid (arr5_alloc w (.int .i64 m) (.int .i64 n) (.int .i64 (m * m - n * n)) (.int .i64 (2 * m * n)) (.int .i64 (m * m + n * n)) 50)
    obtain ⟨c0, c1, c2, c3, c4⟩ := HB.out
    unfold rtV at HL HC ⊢
    clear hv2 hp HB
    go_enter Try.func31, Try.ntmps31
    go_wp2_with fail
    generalize w.alloc (.cells #[.int .i64 m, .int .i64 n, .int .i64 (m * m - n * n), .int .i64 (2 * m * n), .int .i64 (m * m + n * n)] 50) = w2 at c0 c1 c2 c3 c4 HL ⊢
    refine (HC.out _).mono ?_
    rintro e w3 ⟨v3, rfl, ho, hL3⟩
    have HO := hid (ho.wide HL.out.size (Nat.le_refl _))
    have HL3 := hid (HL.out.trans hL3)
    clear ho hL3 c0 c1 c2 c3 c4
    go_wp2_with fail
    go_ret2
    rw [HA.out]
    exact ⟨_, rfl, HO.out, HL3.out⟩
end Go.Proofs.Ytkpnckcfoigceab
