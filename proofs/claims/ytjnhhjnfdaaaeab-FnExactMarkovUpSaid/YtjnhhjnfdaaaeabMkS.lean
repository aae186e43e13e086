/- Contracts of SolvesMarkov. -/
import Derived.Test.YtjnhhjnfdaaaeabMk
import Derived.Test.YtjnhhjnfdaaaeabAns
import Derived.Deep.RegionHeld3
namespace Go.Proofs.Ytjnhhjnfdaaaeab
open Go.RowKit

theorem cnt_iff (z : Int) : within 1 1000000000 z = true ↔ 1 ≤ z ∧ z ≤ 1000000000 := by simp [within]
theorem mul_le18 {x y : Int} (hx : 1 ≤ x) (hx2 : x ≤ 1000000000) (hy : 1 ≤ y) (hy2 : y ≤ 1000000000) : 1 ≤ x * y ∧ x * y ≤ 1000000000000000000 := by
  have h1 : x * y ≤ 1000000000 * y := Int.mul_le_mul_of_nonneg_right hx2 (by omega)
  have h2 : 1 * y ≤ x * y := Int.mul_le_mul_of_nonneg_right hx (by omega)
  omega

set_option maxHeartbeats 400000 in
theorem mkSolves_any (x y z : Int) (w : World) (hx : 1 ≤ x ∧ x ≤ 1000000000) (hy : 1 ≤ y ∧ y ≤ 1000000000) (hz : 1 ≤ z ∧ z ≤ 1000000000) :
    Calls Try.prog 93 #[.int .i64 x, .int .i64 y, .int .i64 z] w fun e w' => e = .returned (.bool (solves3 x y z)) ∧ w = w' := by
  obtain ⟨hx1, hx2⟩ := hx
  obtain ⟨hy1, hy2⟩ := hy
  obtain ⟨hz1, hz2⟩ := hz
  have a1 := mul_le18 hx1 hx2 hx1 hx2
  have a2 := mul_le18 hy1 hy2 hy1 hy2
  have a3 := mul_le18 hx1 hx2 hy1 hy2
  have a4 : 3 * x * y = 3 * (x * y) := by grind
  have a5 : 1 ≤ 3 * x * y ∧ 3 * x * y ≤ 3000000000000000000 := by omega
  obtain ⟨p1, p2⟩ := a1
  obtain ⟨p3, p4⟩ := a2
  obtain ⟨p5, p6⟩ := a5
  have HS := hid (solves_spec x y z hz1)
  clear a3 a4
  go_enter Try.func93, Try.ntmps93
  go_wp2_with fail
  · rename_i hr
    go_ret
    refine ⟨ret_bool ?_, rfl⟩
    have h2 := HS.out
    simp only [hr, true_and] at h2
    unfold solves3
    rw [Bool.eq_iff_iff, beq_iff_eq, decide_eq_true_iff]
    exact h2
  · rename_i hr
    go_ret
    refine ⟨ret_bool ?_, rfl⟩
    have h2 := HS.out
    simp only [hr, false_and, false_iff] at h2
    unfold solves3
    rw [decide_eq_false h2]

theorem Ints.three {w : World} {v : Value} {zs : List Int} (h : Ints w v zs) (h3 : zs.length = 3) :
    ∃ x y z ad cap, zs = [x, y, z] ∧ v = .slice (some ad) 3 cap ∧ w.cell? ad = some (.int .i64 x) ∧ w.cell? ⟨ad.block, ad.off + 1, none⟩ = some (.int .i64 y) ∧ w.cell? ⟨ad.block, ad.off + 2, none⟩ = some (.int .i64 z) := by
  obtain ⟨a, cap, rfl, hl, hc⟩ := h
  match zs, h3 with
  | [x, y, z], _ =>
    obtain ⟨ad, rfl, h0⟩ := hc 0 (by simp)
    obtain ⟨ad', e1, h1⟩ := hc 1 (by simp)
    obtain ⟨ad'', e2, h2⟩ := hc 2 (by simp)
    obtain rfl : ad = ad' := by simpa using e1
    obtain rfl : ad = ad'' := by simpa using e2
    exact ⟨x, y, z, ad, cap, rfl, rfl, by simpa [Addr.add] using h0, by simpa [Addr.add] using h1, by simpa [Addr.add] using h2⟩

/-- A row of three numbers laid at once. -/
theorem ownsThree (w : World) (x y z : Int) : OwnInts w.heap.size (w.heap.size + 1) (w.alloc (.cells #[.int .i64 x, .int .i64 y, .int .i64 z] 3)) (.slice (some ⟨w.heap.size, 0, none⟩) 3 3) [x, y, z] := by
  have h := World.ownsRow_lit (e := 3) (size := 1) w #[.int .i64 x, .int .i64 y, .int .i64 z] 3 (Nat.le_refl _) (by unfold maxLen; omega) (by simp)
  refine ⟨by simpa using h, fun b hb => by simp [Value.ownBlock] at hb; omega⟩
theorem OwnInts.three {lo hi : Nat} {w : World} {v : Value} {x y z : Int} (h : OwnInts lo hi w v [x, y, z]) :
    ∃ g cap, v = .slice (some ⟨g, 0, none⟩) 3 cap ∧ w.cell? ⟨g, 0, none⟩ = some (.int .i64 x) ∧ w.cell? ⟨g, 1, none⟩ = some (.int .i64 y) ∧ w.cell? ⟨g, 2, none⟩ = some (.int .i64 z) ∧ lo ≤ g ∧ g < hi := by
  obtain ⟨a, cap, rfl, _, hm, _, hc⟩ := ownsRow_shape h.1
  obtain ⟨g, rfl, h0⟩ := hc 0 (by simp)
  obtain ⟨g', e1, h1⟩ := hc 1 (by simp)
  obtain ⟨g'', e2, h2⟩ := hc 2 (by simp)
  obtain rfl : g = g' := by simpa using e1
  obtain rfl : g = g'' := by simpa using e2
  exact ⟨g, cap, rfl, by simpa using h0, by simpa using h1, by simpa using h2, (h.1.lt g rfl).1, h.2 g rfl⟩

set_option maxHeartbeats 400000 in
theorem mkSort_any (x y z : Int) (w : World) (hx : -4000000000 ≤ x ∧ x ≤ 4000000000) (hy : -4000000000 ≤ y ∧ y ≤ 4000000000) (hz : -4000000000 ≤ z ∧ z ≤ 4000000000) :
    Calls Try.prog 130 #[.int .i64 x, .int .i64 y, .int .i64 z] w fun e w' => MadeInts w (ordL x y z) e w' := by
  have hl := low3_spec x y z
  have hh := high3_spec x y z
  simp only [low3, high3] at hl hh
  have b1 : -4000000000 ≤ leastI x (leastI y z) ∧ leastI x (leastI y z) ≤ 4000000000 := by omega
  have b2 : -4000000000 ≤ mostI x (mostI y z) ∧ mostI x (mostI y z) ≤ 4000000000 := by omega
  obtain ⟨hx1, hx2⟩ := hx
  obtain ⟨hy1, hy2⟩ := hy
  obtain ⟨hz1, hz2⟩ := hz
  obtain ⟨b3, b4⟩ := b1
  obtain ⟨b5, b6⟩ := b2
  clear hl hh
  go_enter Try.func130, Try.ntmps130
  go_wp2_with (first | (go_at_call 113; refine (l1Least_any _ _ _).mono ?_; rintro e w' ⟨rfl, rfl⟩) | (go_at_call 158; refine (l1Most2_any _ _ _).mono ?_; rintro e w' ⟨rfl, rfl⟩))
  go_ret
  exact ⟨_, rfl, by simpa [ordL, mid3, low3, high3] using ownsThree w _ _ _, Later.alloc _ _⟩

def areCnt (zs : List Int) : Bool := zs.all (within 1 1000000000)
def solvesAns (zs : List Int) : Option Bool := if zs.length = 3 ∧ areCnt zs = true then some (solves3 (zs.getD 0 0) (zs.getD 1 0) (zs.getD 2 0)) else none
theorem areCnt3 {x y z : Int} (h : areCnt [x, y, z] = true) : (1 ≤ x ∧ x ≤ 1000000000) ∧ (1 ≤ y ∧ y ≤ 1000000000) ∧ (1 ≤ z ∧ z ≤ 1000000000) := by
  simp [areCnt, within] at h; omega

end Go.Proofs.Ytjnhhjnfdaaaeab
