/- Contracts of SolvesMarkov. -/
import Derived.Test.YtcgdegmhajfbaacMk
import Derived.Test.YtcgdegmhajfbaacAns
import Derived.Deep.RegionHeld3
namespace Go.Proofs.Ytcgdegmhajfbaac
open Go.RowKit

theorem cnt_iff (z : Int) : within 1 1000000000 z = true ↔ 1 ≤ z ∧ z ≤ 1000000000 := by simp [within]
theorem mul_le18 {x y : Int} (hx : 1 ≤ x) (hx2 : x ≤ 1000000000) (hy : 1 ≤ y) (hy2 : y ≤ 1000000000) : 1 ≤ x * y ∧ x * y ≤ 1000000000000000000 := by
  have h1 : x * y ≤ 1000000000 * y := Int.mul_le_mul_of_nonneg_right hx2 (by omega)
  have h2 : 1 * y ≤ x * y := Int.mul_le_mul_of_nonneg_right hx (by omega)
  omega

theorem Ints.three {w : World} {v : Value} {zs : List Int} (h : Ints w v zs) (h3 : zs.length = 3) :
    ∃ x y z ad cap, zs = [x, y, z] ∧ v = .slice (some ad) 3 cap ∧ w.cell? ad = some (.int .i64 x) ∧ w.cell? ⟨ad.block, ad.off + 1, none⟩ = some (.int .i64 y) ∧ w.cell? ⟨ad.block, ad.off + 2, none⟩ = some (.int .i64 z) := by
  obtain ⟨a, cap, rfl, hl, hc⟩ := h
  match zs, h3 with
  | [x, y, z], _ =>
    obtain ⟨ad, rfl, h0⟩ := hc 0 (by simp)
    obtain ⟨ad', e1, h1⟩ := hc 1 (by simp)
    obtain ⟨ad'', e2, h2⟩ := hc 2 (by simp)
    obtain rfl : ad = ad' := by simpa using e1
    obtain rfl : ad = ad'' := by simpa using e2
    exact ⟨x, y, z, ad, cap, rfl, rfl, by simpa [Addr.add] using h0, by simpa [Addr.add] using h1, by simpa [Addr.add] using h2⟩

/-- A row of three numbers laid at once. -/
theorem ownsThree (w : World) (x y z : Int) : OwnInts w.heap.size (w.heap.size + 1) (w.alloc (.cells #[.int .i64 x, .int .i64 y, .int .i64 z] 3)) (.slice (some ⟨w.heap.size, 0, none⟩) 3 3) [x, y, z] := by
  have h := World.ownsRow_lit (e := 3) (size := 1) w #[.int .i64 x, .int .i64 y, .int .i64 z] 3 (Nat.le_refl _) (by unfold maxLen; omega) (by simp)
  refine ⟨by simpa using h, fun b hb => by simp [Value.ownBlock] at hb; omega⟩
theorem OwnInts.three {lo hi : Nat} {w : World} {v : Value} {x y z : Int} (h : OwnInts lo hi w v [x, y, z]) :
    ∃ g cap, v = .slice (some ⟨g, 0, none⟩) 3 cap ∧ w.cell? ⟨g, 0, none⟩ = some (.int .i64 x) ∧ w.cell? ⟨g, 1, none⟩ = some (.int .i64 y) ∧ w.cell? ⟨g, 2, none⟩ = some (.int .i64 z) ∧ lo ≤ g ∧ g < hi := by
  obtain ⟨a, cap, rfl, _, hm, _, hc⟩ := ownsRow_shape h.1
  obtain ⟨g, rfl, h0⟩ := hc 0 (by simp)
  obtain ⟨g', e1, h1⟩ := hc 1 (by simp)
  obtain ⟨g'', e2, h2⟩ := hc 2 (by simp)
  obtain rfl : g = g' := by simpa using e1
  obtain rfl : g = g'' := by simpa using e2
  exact ⟨g, cap, rfl, by simpa using h0, by simpa using h1, by simpa using h2, (h.1.lt g rfl).1, h.2 g rfl⟩

def areCnt (zs : List Int) : Bool := zs.all (within 1 1000000000)
def solvesAns (zs : List Int) : Option Bool := if zs.length = 3 ∧ areCnt zs = true then some (solves3 (zs.getD 0 0) (zs.getD 1 0) (zs.getD 2 0)) else none
theorem areCnt3 {x y z : Int} (h : areCnt [x, y, z] = true) : (1 ≤ x ∧ x ≤ 1000000000) ∧ (1 ≤ y ∧ y ≤ 1000000000) ∧ (1 ≤ z ∧ z ≤ 1000000000) := by
  simp [areCnt, within] at h; omega

end Go.Proofs.Ytcgdegmhajfbaac
