/- Right triples in the model: the sides of a pair, the pair of a list. -/
import Derived.Test.YtkpnckcfoigceabRiI
import Derived.Test.YtkpnckcfoigceabSame
import Derived.Deep.RegionHeld3
namespace Go.Proofs.Ytkpnckcfoigceab
open Go.RowKit

theorem Ints.threeR {w : World} {v : Value} {zs : List Int} (h : Ints w v zs) (h3 : zs.length = 3) :
    ∃ x y z ad cap, zs = [x, y, z] ∧ v = .slice (some ad) 3 cap ∧ w.cell? ad = some (.int .i64 x) ∧ w.cell? ⟨ad.block, ad.off + 1, none⟩ = some (.int .i64 y) ∧ w.cell? ⟨ad.block, ad.off + 2, none⟩ = some (.int .i64 z) := by
  obtain ⟨a, cap, rfl, hl, hc⟩ := h
  match zs, h3 with
  | [x, y, z], _ =>
    obtain ⟨ad, rfl, h0⟩ := hc 0 (by simp)
    obtain ⟨ad', e1, h1⟩ := hc 1 (by simp)
    obtain ⟨ad'', e2, h2⟩ := hc 2 (by simp)
    obtain rfl : ad = ad' := by simpa using e1
    obtain rfl : ad = ad'' := by simpa using e2
    exact ⟨x, y, z, ad, cap, rfl, rfl, by simpa [Addr.add] using h0, by simpa [Addr.add] using h1, by simpa [Addr.add] using h2⟩

/-- A row of three numbers laid at once. -/
theorem ownsThreeR (w : World) (x y z : Int) : OwnInts w.heap.size (w.heap.size + 1) (w.alloc (.cells #[.int .i64 x, .int .i64 y, .int .i64 z] 3)) (.slice (some ⟨w.heap.size, 0, none⟩) 3 3) [x, y, z] := by
  have h := World.ownsRow_lit (e := 3) (size := 1) w #[.int .i64 x, .int .i64 y, .int .i64 z] 3 (Nat.le_refl _) (by unfold maxLen; omega) (by simp)
  refine ⟨by simpa using h, fun b hb => by simp [Value.ownBlock] at hb; omega⟩
theorem OwnInts.threeR {lo hi : Nat} {w : World} {v : Value} {x y z : Int} (h : OwnInts lo hi w v [x, y, z]) :
    ∃ g cap, v = .slice (some ⟨g, 0, none⟩) 3 cap ∧ w.cell? ⟨g, 0, none⟩ = some (.int .i64 x) ∧ w.cell? ⟨g, 1, none⟩ = some (.int .i64 y) ∧ w.cell? ⟨g, 2, none⟩ = some (.int .i64 z) ∧ lo ≤ g ∧ g < hi := by
  obtain ⟨a, cap, rfl, _, hm, _, hc⟩ := ownsRow_shape h.1
  obtain ⟨g, rfl, h0⟩ := hc 0 (by simp)
  obtain ⟨g', e1, h1⟩ := hc 1 (by simp)
  obtain ⟨g'', e2, h2⟩ := hc 2 (by simp)
  obtain rfl : g = g' := by simpa using e1
  obtain rfl : g = g'' := by simpa using e2
  exact ⟨g, cap, rfl, by simpa using h0, by simpa using h1, by simpa using h2, (h.1.lt g rfl).1, h.2 g rfl⟩

theorem right_bounds {x y z m n : Int} (h : rightP [x, y, z] = some (m, n)) : Pair m n ∧ [x, y, z].all (within 1 1000000000) = true ∧ x < z ∧ x = m * m - n * n ∧ y = 2 * m * n ∧ z = m * m + n * n := by
  obtain ⟨hp, he⟩ := right_some h
  unfold sidesL at he
  simp only [List.cons.injEq, and_true] at he
  obtain ⟨rfl, rfl, rfl⟩ := he
  have h1 := hp.h1
  have h2 := hp.h2
  have h6 := hp.h6
  obtain ⟨p1, p2, p3, p4, p5, p6, p7⟩ := hp.prods
  refine ⟨hp, ?_, by omega, rfl, rfl, rfl⟩
  have q : n * n + 2 * (m * n) ≤ m * m + n * n + n * n + 1000000000 := by
    have : (0 : Int) ≤ (m - n) * (m - n) := Int.mul_nonneg (by omega) (by omega)
    have e : (m - n) * (m - n) = m * m + n * n - 2 * (m * n) := by grind
    omega
  have q2 : 2 * (m * n) ≤ m * m + n * n := by
    have : (0 : Int) ≤ (m - n) * (m - n) := Int.mul_nonneg (by omega) (by omega)
    have e : (m - n) * (m - n) = m * m + n * n - 2 * (m * n) := by grind
    omega
  simp only [List.all_cons, List.all_nil, Bool.and_true, within, Bool.and_eq_true, decide_eq_true_eq]
  omega

set_option maxHeartbeats 1000000 in
theorem riOf_any (m n : Int) (hp : Pair m n) (w : World) :
    Calls Try.prog 19 #[.int .i64 m, .int .i64 n] w fun e w' => MadeInts w (sidesL m n) e w' := by
  obtain ⟨p1, p2, p3, p4, p5, p6, p7⟩ := hp.prods
  have h1 := hp.h1
  have h2 := hp.h2
  have h7 := hp.h7
  have p8 : 0 ≤ 2 * m * n := by omega
  have p9 : 2 * m * n ≤ 2000000000 := by omega
  have HO := hid (ownsThreeR w (m * m - n * n) (2 * m * n) (m * m + n * n))
  have HL := hid (Later.alloc w (.cells #[.int .i64 (m * m - n * n), .int .i64 (2 * m * n), .int .i64 (m * m + n * n)] 3))
  clear p6 p7 hp
  go_enter Try.func19, Try.ntmps19
  go_wp2_with fail
  go_ret
  exact ⟨_, rfl, HO.out.wide (Nat.le_refl _) (by simp), HL.out⟩

end Go.Proofs.Ytkpnckcfoigceab
