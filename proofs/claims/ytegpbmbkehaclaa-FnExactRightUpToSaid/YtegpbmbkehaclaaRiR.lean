/- Right triples in the program: slices.Equal, RootOf, the sides as a slice, the pair of a list. -/
import Derived.Test.YtegpbmbkehaclaaRiV
import Derived.Test.YtegpbmbkehaclaaLayCloneI
import Derived.Test.YtegpbmbkehaclaaIntC
import Derived.Deep.RegionHeld3
namespace Go.Proofs.Ytegpbmbkehaclaa
open Go.RowKit

theorem Arr5.sides {w : World} {b : Nat} {m n : Int} (h : Arr5 w b (.int .i64 m) (.int .i64 n) (.int .i64 (m * m - n * n)) (.int .i64 (2 * m * n)) (.int .i64 (m * m + n * n))) :
    Ints w (.slice (some ⟨b, 2, none⟩) 3 3) (sidesL m n) := by
  refine ⟨_, _, rfl, by simp [sidesL], fun i hi => ⟨_, rfl, ?_⟩⟩
  have e : (⟨b, 2, none⟩ : Addr).add i = ⟨b, 2 + i, none⟩ := by unfold Addr.add; split <;> simp_all
  rw [e]
  have hi3 : i = 0 ∨ i = 1 ∨ i = 2 := by simp [sidesL] at hi; omega
  rcases hi3 with rfl | rfl | rfl
  · exact h.c2
  · exact h.c3
  · exact h.c4

theorem OwnInts.nothingR (lo hi : Nat) (w : World) : OwnInts lo hi w (.slice none 0 0) [] := ⟨World.ownsRow_nil _ _ _ _, fun b hb => by simp [Value.ownBlock] at hb⟩
set_option maxRecDepth 20000 in
set_option maxHeartbeats 2000000 in
theorem rtList_any (m n : Int) (w : World) :
    Calls Try.prog 65 #[.agg (rtV m n).toArray] w fun e w' => MadeInts w (sidesL m n) e w' := by
  have HL := hid (Later.alloc w (.cells (rtV m n).toArray 37))
  have HA := hid (arr5_alloc w (.int .i64 m) (.int .i64 n) (.int .i64 (m * m - n * n)) (.int .i64 (2 * m * n)) (.int .i64 (m * m + n * n)) 37)
  obtain ⟨c0, c1, c2, c3, c4⟩ := HA.out
  unfold rtV at HL ⊢
  go_enter Try.func65, Try.ntmps65
  go_wp2_with fail
  generalize w.alloc (.cells #[.int .i64 m, .int .i64 n, .int .i64 (m * m - n * n), .int .i64 (2 * m * n), .int .i64 (m * m + n * n)] 37) = w2 at c0 c1 c2 c3 c4 HL HA ⊢
  refine (Any.slices_Clone_int laysLays215 w.heap.size 2 3 3 (sidesL m n) w2 (by simp [sidesL]) (by omega) (fun j hj => ?_)).mono ?_
  · have hi3 : j = 0 ∨ j = 1 ∨ j = 2 := by simp [sidesL] at hj; omega
    rcases hi3 with rfl | rfl | rfl
    · exact c2
    · exact c3
    · exact c4
  rintro e w3 ⟨v3, rfl, ho, _, hb⟩
  have HL3 := hid (HL.out.trans hb)
  have HO : Hid (OwnInts w2.heap.size w3.heap.size w3 v3 (sidesL m n)) := hid (OwnInts.ofH ho (by rw [List.take_of_length_le (by simp [sidesL])]))
  clear hb ho
  go_wp2_with fail
  go_ret
  exact ⟨_, rfl, HO.out.wide HL.out.size (Nat.le_refl _), HL3.out⟩

end Go.Proofs.Ytegpbmbkehaclaa
