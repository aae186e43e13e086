/- Contracts of SolvesMarkov. -/
import Derived.Test.YtmlnpnglafipbaaMk
import Derived.Test.YtmlnpnglafipbaaAns
import Derived.Deep.RegionHeld3
namespace Go.Proofs.Ytmlnpnglafipbaa
open Go.RowKit

theorem cnt_iff (z : Int) : within 1 1000000000 z = true ↔ 1 ≤ z ∧ z ≤ 1000000000 := by simp [within]
theorem mul_le18 {x y : Int} (hx : 1 ≤ x) (hx2 : x ≤ 1000000000) (hy : 1 ≤ y) (hy2 : y ≤ 1000000000) : 1 ≤ x * y ∧ x * y ≤ 1000000000000000000 := by
  have h1 : x * y ≤ 1000000000 * y := Int.mul_le_mul_of_nonneg_right hx2 (by omega)
  have h2 : 1 * y ≤ x * y := Int.mul_le_mul_of_nonneg_right hx (by omega)
  omega

set_option maxHeartbeats 400000 in
theorem mkSolves_any (x y z : Int) (w : World) (hx : 1 ≤ x ∧ x ≤ 1000000000) (hy : 1 ≤ y ∧ y ≤ 1000000000) (hz : 1 ≤ z ∧ z ≤ 1000000000) :
    Calls Try.prog 42 #[.int .i64 x, .int .i64 y, .int .i64 z] w fun e w' => e = .returned (.bool (solves3 x y z)) ∧ w = w' := by
  obtain ⟨hx1, hx2⟩ := hx
  obtain ⟨hy1, hy2⟩ := hy
  obtain ⟨hz1, hz2⟩ := hz
  have a1 := mul_le18 hx1 hx2 hx1 hx2
  have a2 := mul_le18 hy1 hy2 hy1 hy2
  have a3 := mul_le18 hx1 hx2 hy1 hy2
  have a4 : 3 * x * y = 3 * (x * y) := by grind
  have a5 : 1 ≤ 3 * x * y ∧ 3 * x * y ≤ 3000000000000000000 := by omega
  obtain ⟨p1, p2⟩ := a1
  obtain ⟨p3, p4⟩ := a2
  obtain ⟨p5, p6⟩ := a5
  have HS := hid (solves_spec x y z hz1)
  clear a3 a4
  go_enter Try.func42, Try.ntmps42
  go_wp2_with fail
  · rename_i hr
    go_ret
    refine ⟨ret_bool ?_, rfl⟩
    have h2 := HS.out
    simp only [hr, true_and] at h2
    unfold solves3
    rw [Bool.eq_iff_iff, beq_iff_eq, decide_eq_true_iff]
    exact h2
  · rename_i hr
    go_ret
    refine ⟨ret_bool ?_, rfl⟩
    have h2 := HS.out
    simp only [hr, false_and, false_iff] at h2
    unfold solves3
    rw [decide_eq_false h2]

theorem Ints.three {w : World} {v : Value} {zs : List Int} (h : Ints w v zs) (h3 : zs.length = 3) :
    ∃ x y z ad cap, zs = [x, y, z] ∧ v = .slice (some ad) 3 cap ∧ w.cell? ad = some (.int .i64 x) ∧ w.cell? ⟨ad.block, ad.off + 1, none⟩ = some (.int .i64 y) ∧ w.cell? ⟨ad.block, ad.off + 2, none⟩ = some (.int .i64 z) := by
  obtain ⟨a, cap, rfl, hl, hc⟩ := h
  match zs, h3 with
  | [x, y, z], _ =>
    obtain ⟨ad, rfl, h0⟩ := hc 0 (by simp)
    obtain ⟨ad', e1, h1⟩ := hc 1 (by simp)
    obtain ⟨ad'', e2, h2⟩ := hc 2 (by simp)
    obtain rfl : ad = ad' := by simpa using e1
    obtain rfl : ad = ad'' := by simpa using e2
    exact ⟨x, y, z, ad, cap, rfl, rfl, by simpa [Addr.add] using h0, by simpa [Addr.add] using h1, by simpa [Addr.add] using h2⟩

/-- A row of three numbers laid at once. -/
theorem ownsThree (w : World) (x y z : Int) : OwnInts w.heap.size (w.heap.size + 1) (w.alloc (.cells #[.int .i64 x, .int .i64 y, .int .i64 z] 3)) (.slice (some ⟨w.heap.size, 0, none⟩) 3 3) [x, y, z] := by
  have h := World.ownsRow_lit (e := 3) (size := 1) w #[.int .i64 x, .int .i64 y, .int .i64 z] 3 (Nat.le_refl _) (by unfold maxLen; omega) (by simp)
  refine ⟨by simpa using h, fun b hb => by simp [Value.ownBlock] at hb; omega⟩
theorem OwnInts.three {lo hi : Nat} {w : World} {v : Value} {x y z : Int} (h : OwnInts lo hi w v [x, y, z]) :
    ∃ g cap, v = .slice (some ⟨g, 0, none⟩) 3 cap ∧ w.cell? ⟨g, 0, none⟩ = some (.int .i64 x) ∧ w.cell? ⟨g, 1, none⟩ = some (.int .i64 y) ∧ w.cell? ⟨g, 2, none⟩ = some (.int .i64 z) ∧ lo ≤ g ∧ g < hi := by
  obtain ⟨a, cap, rfl, _, hm, _, hc⟩ := ownsRow_shape h.1
  obtain ⟨g, rfl, h0⟩ := hc 0 (by simp)
  obtain ⟨g', e1, h1⟩ := hc 1 (by simp)
  obtain ⟨g'', e2, h2⟩ := hc 2 (by simp)
  obtain rfl : g = g' := by simpa using e1
  obtain rfl : g = g'' := by simpa using e2
  exact ⟨g, cap, rfl, by simpa using h0, by simpa using h1, by simpa using h2, (h.1.lt g rfl).1, h.2 g rfl⟩

set_option maxHeartbeats 400000 in
theorem mkSort_any (x y z : Int) (w : World) (hx : -4000000000 ≤ x ∧ x ≤ 4000000000) (hy : -4000000000 ≤ y ∧ y ≤ 4000000000) (hz : -4000000000 ≤ z ∧ z ≤ 4000000000) :
    Calls Try.prog 41 #[.int .i64 x, .int .i64 y, .int .i64 z] w fun e w' => MadeInts w (ordL x y z) e w' := by
  have hl := low3_spec x y z
  have hh := high3_spec x y z
  simp only [low3, high3] at hl hh
  have b1 : -4000000000 ≤ leastI x (leastI y z) ∧ leastI x (leastI y z) ≤ 4000000000 := by omega
  have b2 : -4000000000 ≤ mostI x (mostI y z) ∧ mostI x (mostI y z) ≤ 4000000000 := by omega
  obtain ⟨hx1, hx2⟩ := hx
  obtain ⟨hy1, hy2⟩ := hy
  obtain ⟨hz1, hz2⟩ := hz
  obtain ⟨b3, b4⟩ := b1
  obtain ⟨b5, b6⟩ := b2
  clear hl hh
  go_enter Try.func41, Try.ntmps41
  go_wp2_with (first | (go_at_call 72; refine (l1Least_any _ _ _).mono ?_; rintro e w' ⟨rfl, rfl⟩) | (go_at_call 73; refine (l1Most2_any _ _ _).mono ?_; rintro e w' ⟨rfl, rfl⟩))
  go_ret
  exact ⟨_, rfl, by simpa [ordL, mid3, low3, high3] using ownsThree w _ _ _, Later.alloc _ _⟩

def areCnt (zs : List Int) : Bool := zs.all (within 1 1000000000)
def solvesAns (zs : List Int) : Option Bool := if zs.length = 3 ∧ areCnt zs = true then some (solves3 (zs.getD 0 0) (zs.getD 1 0) (zs.getD 2 0)) else none
theorem areCnt3 {x y z : Int} (h : areCnt [x, y, z] = true) : (1 ≤ x ∧ x ≤ 1000000000) ∧ (1 ≤ y ∧ y ≤ 1000000000) ∧ (1 ≤ z ∧ z ≤ 1000000000) := by
  simp [areCnt, within] at h; omega

set_option maxHeartbeats 1000000 in
theorem specSolvesMarkov_any (v : Value) (zs : List Int) (w : World) (h : Ints w v zs) :
    Calls Try.prog 13 #[v] w fun e w' => BoolAns w (solvesAns zs) e w' := by
  by_cases h3 : zs.length = 3
  · cases hcn : areCnt zs
    · have HA := hid (show solvesAns zs = none by unfold solvesAns; rw [if_neg (by simp [hcn])])
      have HC := hid (show zs.all (within 1 1000000000) = false from hcn)
      obtain ⟨a, cap, rfl, hl, _⟩ := id h
      have H := hid h
      have hn : ((zs.length : Int) != 3) = false := by simp [h3]
      clear h hcn h3
      go_enter Try.func13, Try.ntmps13
      go_wp2_with fail
      refine (l1All_as _ zs 1 1000000000 false _ HC.out H.out).mono ?_
      rintro e w' ⟨rfl, rfl⟩
      go_wp2_with fail
      go_ret2
      exact ⟨by rw [HA.out]; rfl, Later.refl _⟩
    · obtain ⟨x, y, z, ad, cap, rfl, rfl, c0, c1, c2⟩ := h.three h3
      obtain ⟨hx, hy, hz⟩ := areCnt3 hcn
      have HA := hid (show solvesAns [x, y, z] = some (solves3 x y z) by unfold solvesAns; rw [if_pos ⟨rfl, hcn⟩]; rfl)
      have HC := hid (show [x, y, z].all (within 1 1000000000) = true from hcn)
      have HO3 := hid (sort3_order x y z)
      have HP3 := hid (sort3_perm x y z)
      have HSS := hid (sort3_solves x y z)
      have H := hid h
      clear h hcn h3
      go_enter Try.func13, Try.ntmps13
      go_wp2_with fail
      refine (l1All_as (.slice (some ad) 3 cap) [x, y, z] 1 1000000000 true _ HC.out H.out).mono ?_
      rintro e w' ⟨rfl, rfl⟩
      go_wp2_with fail
      go_region_held3 (fun w' => w'.cell? ad = some (.int .i64 x) ∧ w'.cell? ⟨ad.block, ad.off + 1, none⟩ = some (.int .i64 y) ∧ w'.cell? ⟨ad.block, ad.off + 2, none⟩ = some (.int .i64 z)) (first | exact ⟨c0, c1, c2⟩ | exact ⟨d0, d1, d2⟩) (first | (go_at_call 41; refine (mkSort_any x y z _ (by omega) (by omega) (by omega)).mono ?_; rintro e w2 ⟨v2, rfl, hown, hL⟩; have d0 := hL.cell (w := w.drew) c0; have d1 := hL.cell (w := w.drew) c1; have d2 := hL.cell (w := w.drew) c2; have HL := hid ((Later.drew w).trans hL); obtain ⟨g, c2', rfl, e0, e1, e2, _, _⟩ := hown.three; clear hL hown))
      clear d0 d1 d2 c0 c1 c2
      go_wp2_with fail
      go_region_held3 (fun w' => w'.cell? ⟨g, 0, none⟩ = some (.int .i64 (low3 x y z)) ∧ w'.cell? ⟨g, 1, none⟩ = some (.int .i64 (mid3 x y z)) ∧ w'.cell? ⟨g, 2, none⟩ = some (.int .i64 (high3 x y z))) (first | exact ⟨e0, e1, e2⟩) (first | (go_at_call 42; refine (mkSolves_any _ _ _ _ (by have := HP3.out; omega) (by have := HP3.out; omega) (by have := HP3.out; omega)).mono ?_; rintro e w3 ⟨rfl, rfl⟩; rw [HSS.out]))
      go_wp2_with fail
      go_ret2
      exact ⟨by rw [HA.out]; rfl, HL.out.trans (Later.drew _)⟩
  · have HA := hid (show solvesAns zs = none by unfold solvesAns; rw [if_neg (by simp [h3])])
    obtain ⟨a, cap, rfl, hl, _⟩ := id h
    have hn : ((zs.length : Int) != 3) = true := by simp; omega
    clear h
    go_enter Try.func13, Try.ntmps13
    go_wp2_with fail
    go_ret2
    exact ⟨by rw [HA.out]; rfl, Later.refl _⟩
end Go.Proofs.Ytmlnpnglafipbaa
