/- Slices of circles: StartConfig. -/
import Derived.Test.YtljikcajfmnnmabCiC
namespace Go.Proofs.Ytljikcajfmnnmab
open Go.RowKit

def startAns (k : Int) : Option (List Ci4) := if k = 0 then some [(1, -1, 0, 0), (0, 2, 1, 0), (0, 2, -1, 0), (1, 3, 0, 2)] else if k = 1 then some [(4, 0, 0, 1), (0, 0, 0, -1), (0, 1, 0, 1), (4, 1, 2, 1)] else none
theorem startAns_len (k : Int) : ((startAns k).getD []).length ≤ 1000000000000 := by
  unfold startAns
  split
  · simp
  · split <;> simp
theorem OwnCis.lit (w : World) (L : List Ci4) (hn : L.length ≤ 1000) : OwnCis w.heap.size (w.alloc (.cells (ciCells L).toArray 50)).heap.size (w.alloc (.cells (ciCells L).toArray 50)) (.slice (some ⟨w.heap.size, 0, none⟩) L.length L.length) L := by
  have h := World.ownsRow_lit (e := 50) (size := 4) w (ciCells L).toArray L.length (Nat.le_refl _) (by unfold maxLen; omega) (by simp [ciCells_len])
  refine ⟨by simpa using h, fun k hk => ?_⟩
  simp [Value.ownBlock] at hk ⊢
  omega
set_option maxRecDepth 20000 in
set_option maxHeartbeats 1000000 in
theorem startS_any (k : Int) (w : World) :
    Calls Try.prog 10 #[.int .i64 k] w fun e w' => CisAns w (startAns k) e w' := by
  by_cases h0 : k = 0
  · subst h0
    have HO := hid (OwnCis.lit w [(1, -1, 0, 0), (0, 2, 1, 0), (0, 2, -1, 0), (1, 3, 0, 2)] (by simp))
    have HL := hid (Later.alloc w (.cells (ciCells [(1, -1, 0, 0), (0, 2, 1, 0), (0, 2, -1, 0), (1, 3, 0, 2)]).toArray 50))
    go_enter Try.func10, Try.ntmps10
    go_wp2_with fail
    go_ret2
    exact ⟨_, rfl, HO.out, HL.out⟩
  · have b0 : (k == 0) = false := by simp [h0]
    by_cases h1 : k = 1
    · subst h1
      have HO := hid (OwnCis.lit w [(4, 0, 0, 1), (0, 0, 0, -1), (0, 1, 0, 1), (4, 1, 2, 1)] (by simp))
      have HL := hid (Later.alloc w (.cells (ciCells [(4, 0, 0, 1), (0, 0, 0, -1), (0, 1, 0, 1), (4, 1, 2, 1)]).toArray 50))
      go_enter Try.func10, Try.ntmps10
      go_wp2_with fail
      go_ret2
      exact ⟨_, rfl, HO.out, HL.out⟩
    · have b1 : (k == 1) = false := by simp [h1]
      have HA := hid (show startAns k = none by unfold startAns; rw [if_neg h0, if_neg h1])
      rw [HA.out]
      go_enter Try.func10, Try.ntmps10
      go_wp2_with fail
      go_ret2
      exact ⟨_, rfl, OwnCis.nothing _ _ _, Later.refl _⟩
set_option maxRecDepth 20000 in
set_option maxHeartbeats 1000000 in
theorem startP_any (k : Int) (w : World) :
    Calls Try.prog 11 #[.int .i64 k] w fun e w' => CisAns w (startAns k) e w' := by
  by_cases h0 : k = 0
  · subst h0
    have HO := hid (OwnCis.lit w [(1, -1, 0, 0), (0, 2, 1, 0), (0, 2, -1, 0), (1, 3, 0, 2)] (by simp))
    have HL := hid (Later.alloc w (.cells (ciCells [(1, -1, 0, 0), (0, 2, 1, 0), (0, 2, -1, 0), (1, 3, 0, 2)]).toArray 50))
    go_enter Try.func11, Try.ntmps11
    go_wp2_with fail
    go_ret2
    exact ⟨_, rfl, HO.out, HL.out⟩
  · have b0 : (k == 0) = false := by simp [h0]
    by_cases h1 : k = 1
    · subst h1
      have HO := hid (OwnCis.lit w [(4, 0, 0, 1), (0, 0, 0, -1), (0, 1, 0, 1), (4, 1, 2, 1)] (by simp))
      have HL := hid (Later.alloc w (.cells (ciCells [(4, 0, 0, 1), (0, 0, 0, -1), (0, 1, 0, 1), (4, 1, 2, 1)]).toArray 50))
      go_enter Try.func11, Try.ntmps11
      go_wp2_with fail
      go_ret2
      exact ⟨_, rfl, HO.out, HL.out⟩
    · have b1 : (k == 1) = false := by simp [h1]
      have HA := hid (show startAns k = none by unfold startAns; rw [if_neg h0, if_neg h1])
      rw [HA.out]
      go_enter Try.func11, Try.ntmps11
      go_wp2_with fail
      go_ret2
      exact ⟨_, rfl, OwnCis.nothing _ _ _, Later.refl _⟩
end Go.Proofs.Ytljikcajfmnnmab
