/- MkS, MkT, MkG, MkR: in one text. -/
import Derived.Test.YtdahhcigphhfdabMk
import Derived.Test.YtdahhcigphhfdabBasB
import Derived.Deep.RegionHeld3
import Derived.BigQuiet
namespace Go.Proofs.Ytdahhcigphhfdab
open Go.RowKit


theorem cnt_iff (z : Int) : within 1 1000000000 z = true ↔ 1 ≤ z ∧ z ≤ 1000000000 := by simp [within]
theorem mul_le18 {x y : Int} (hx : 1 ≤ x) (hx2 : x ≤ 1000000000) (hy : 1 ≤ y) (hy2 : y ≤ 1000000000) : 1 ≤ x * y ∧ x * y ≤ 1000000000000000000 := by
  have h1 : x * y ≤ 1000000000 * y := Int.mul_le_mul_of_nonneg_right hx2 (by omega)
  have h2 : 1 * y ≤ x * y := Int.mul_le_mul_of_nonneg_right hx (by omega)
  omega

set_option maxHeartbeats 400000 in
theorem mkSolves_any (x y z : Int) (w : World) (hx : 1 ≤ x ∧ x ≤ 1000000000) (hy : 1 ≤ y ∧ y ≤ 1000000000) (hz : 1 ≤ z ∧ z ≤ 1000000000) :
    Calls Try.prog 123 #[.int .i64 x, .int .i64 y, .int .i64 z] w fun e w' => e = .returned (.bool (solves3 x y z)) ∧ w = w' := by
  obtain ⟨hx1, hx2⟩ := hx
  obtain ⟨hy1, hy2⟩ := hy
  obtain ⟨hz1, hz2⟩ := hz
  have a1 := mul_le18 hx1 hx2 hx1 hx2
  have a2 := mul_le18 hy1 hy2 hy1 hy2
  have a3 := mul_le18 hx1 hx2 hy1 hy2
  have a4 : 3 * x * y = 3 * (x * y) := by grind
  have a5 : 1 ≤ 3 * x * y ∧ 3 * x * y ≤ 3000000000000000000 := by omega
  obtain ⟨p1, p2⟩ := a1
  obtain ⟨p3, p4⟩ := a2
  obtain ⟨p5, p6⟩ := a5
  have HS := hid (solves_spec x y z hz1)
  clear a3 a4
  go_enter Try.func123, Try.ntmps123
  go_wp2_with fail
  · rename_i hr
    go_ret
    refine ⟨ret_bool ?_, rfl⟩
    have h2 := HS.out
    simp only [hr, true_and] at h2
    unfold solves3
    rw [Bool.eq_iff_iff, beq_iff_eq, decide_eq_true_iff]
    exact h2
  · rename_i hr
    go_ret
    refine ⟨ret_bool ?_, rfl⟩
    have h2 := HS.out
    simp only [hr, false_and, false_iff] at h2
    unfold solves3
    rw [decide_eq_false h2]

theorem Ints.three {w : World} {v : Value} {zs : List Int} (h : Ints w v zs) (h3 : zs.length = 3) :
    ∃ x y z ad cap, zs = [x, y, z] ∧ v = .slice (some ad) 3 cap ∧ w.cell? ad = some (.int .i64 x) ∧ w.cell? ⟨ad.block, ad.off + 1, none⟩ = some (.int .i64 y) ∧ w.cell? ⟨ad.block, ad.off + 2, none⟩ = some (.int .i64 z) := by
  obtain ⟨a, cap, rfl, hl, hc⟩ := h
  match zs, h3 with
  | [x, y, z], _ =>
    obtain ⟨ad, rfl, h0⟩ := hc 0 (by simp)
    obtain ⟨ad', e1, h1⟩ := hc 1 (by simp)
    obtain ⟨ad'', e2, h2⟩ := hc 2 (by simp)
    obtain rfl : ad = ad' := by simpa using e1
    obtain rfl : ad = ad'' := by simpa using e2
    exact ⟨x, y, z, ad, cap, rfl, rfl, by simpa [Addr.add] using h0, by simpa [Addr.add] using h1, by simpa [Addr.add] using h2⟩

/-- A row of three numbers laid at once. -/
theorem ownsThree (w : World) (x y z : Int) : OwnInts w.heap.size (w.heap.size + 1) (w.alloc (.cells #[.int .i64 x, .int .i64 y, .int .i64 z] 3)) (.slice (some ⟨w.heap.size, 0, none⟩) 3 3) [x, y, z] := by
  have h := World.ownsRow_lit (e := 3) (size := 1) w #[.int .i64 x, .int .i64 y, .int .i64 z] 3 (Nat.le_refl _) (by unfold maxLen; omega) (by simp)
  refine ⟨by simpa using h, fun b hb => by simp [Value.ownBlock] at hb; omega⟩
theorem OwnInts.three {lo hi : Nat} {w : World} {v : Value} {x y z : Int} (h : OwnInts lo hi w v [x, y, z]) :
    ∃ g cap, v = .slice (some ⟨g, 0, none⟩) 3 cap ∧ w.cell? ⟨g, 0, none⟩ = some (.int .i64 x) ∧ w.cell? ⟨g, 1, none⟩ = some (.int .i64 y) ∧ w.cell? ⟨g, 2, none⟩ = some (.int .i64 z) ∧ lo ≤ g ∧ g < hi := by
  obtain ⟨a, cap, rfl, _, hm, _, hc⟩ := ownsRow_shape h.1
  obtain ⟨g, rfl, h0⟩ := hc 0 (by simp)
  obtain ⟨g', e1, h1⟩ := hc 1 (by simp)
  obtain ⟨g'', e2, h2⟩ := hc 2 (by simp)
  obtain rfl : g = g' := by simpa using e1
  obtain rfl : g = g'' := by simpa using e2
  exact ⟨g, cap, rfl, by simpa using h0, by simpa using h1, by simpa using h2, (h.1.lt g rfl).1, h.2 g rfl⟩

set_option maxHeartbeats 400000 in
theorem mkSort_any (x y z : Int) (w : World) (hx : -4000000000 ≤ x ∧ x ≤ 4000000000) (hy : -4000000000 ≤ y ∧ y ≤ 4000000000) (hz : -4000000000 ≤ z ∧ z ≤ 4000000000) :
    Calls Try.prog 122 #[.int .i64 x, .int .i64 y, .int .i64 z] w fun e w' => MadeInts w (ordL x y z) e w' := by
  have hl := low3_spec x y z
  have hh := high3_spec x y z
  simp only [low3, high3] at hl hh
  have b1 : -4000000000 ≤ leastI x (leastI y z) ∧ leastI x (leastI y z) ≤ 4000000000 := by omega
  have b2 : -4000000000 ≤ mostI x (mostI y z) ∧ mostI x (mostI y z) ≤ 4000000000 := by omega
  obtain ⟨hx1, hx2⟩ := hx
  obtain ⟨hy1, hy2⟩ := hy
  obtain ⟨hz1, hz2⟩ := hz
  obtain ⟨b3, b4⟩ := b1
  obtain ⟨b5, b6⟩ := b2
  clear hl hh
  go_enter Try.func122, Try.ntmps122
  go_wp2_with (first | (go_at_call 124; refine (l1Least_any _ _ _).mono ?_; rintro e w' ⟨rfl, rfl⟩) | (go_at_call 100; refine (l1Most2_any _ _ _).mono ?_; rintro e w' ⟨rfl, rfl⟩))
  go_ret
  exact ⟨_, rfl, by simpa [ordL, mid3, low3, high3] using ownsThree w _ _ _, Later.alloc _ _⟩

def areCnt (zs : List Int) : Bool := zs.all (within 1 1000000000)
def solvesAns (zs : List Int) : Option Bool := if zs.length = 3 ∧ areCnt zs = true then some (solves3 (zs.getD 0 0) (zs.getD 1 0) (zs.getD 2 0)) else none
theorem areCnt3 {x y z : Int} (h : areCnt [x, y, z] = true) : (1 ≤ x ∧ x ≤ 1000000000) ∧ (1 ≤ y ∧ y ≤ 1000000000) ∧ (1 ≤ z ∧ z ≤ 1000000000) := by
  simp [areCnt, within] at h; omega

set_option maxHeartbeats 1000000 in
theorem specSolvesMarkov_any (v : Value) (zs : List Int) (w : World) (h : Ints w v zs) :
    Calls Try.prog 54 #[v] w fun e w' => BoolAns w (solvesAns zs) e w' := by
  by_cases h3 : zs.length = 3
  · cases hcn : areCnt zs
    · have HA := hid (show solvesAns zs = none by unfold solvesAns; rw [if_neg (by simp [hcn])])
      have HC := hid (show zs.all (within 1 1000000000) = false from hcn)
      obtain ⟨a, cap, rfl, hl, _⟩ := id h
      have H := hid h
      have hn : ((zs.length : Int) != 3) = false := by simp [h3]
      clear h hcn h3
      go_enter Try.func54, Try.ntmps54
      go_wp2_with fail
      refine (l1All_as _ zs 1 1000000000 false _ HC.out H.out).mono ?_
      rintro e w' ⟨rfl, rfl⟩
      go_wp2_with fail
      go_ret2
      exact ⟨by rw [HA.out]; rfl, Later.refl _⟩
    · obtain ⟨x, y, z, ad, cap, rfl, rfl, c0, c1, c2⟩ := h.three h3
      obtain ⟨hx, hy, hz⟩ := areCnt3 hcn
      have HA := hid (show solvesAns [x, y, z] = some (solves3 x y z) by unfold solvesAns; rw [if_pos ⟨rfl, hcn⟩]; rfl)
      have HC := hid (show [x, y, z].all (within 1 1000000000) = true from hcn)
      have HO3 := hid (sort3_order x y z)
      have HP3 := hid (sort3_perm x y z)
      have HSS := hid (sort3_solves x y z)
      have H := hid h
      clear h hcn h3
      go_enter Try.func54, Try.ntmps54
      go_wp2_with fail
      refine (l1All_as (.slice (some ad) 3 cap) [x, y, z] 1 1000000000 true _ HC.out H.out).mono ?_
      rintro e w' ⟨rfl, rfl⟩
      go_wp2_with fail
      go_region_held3 (fun w' => w'.cell? ad = some (.int .i64 x) ∧ w'.cell? ⟨ad.block, ad.off + 1, none⟩ = some (.int .i64 y) ∧ w'.cell? ⟨ad.block, ad.off + 2, none⟩ = some (.int .i64 z)) (first | exact ⟨c0, c1, c2⟩ | exact ⟨d0, d1, d2⟩) (first | (go_at_call 122; refine (mkSort_any x y z _ (by omega) (by omega) (by omega)).mono ?_; rintro e w2 ⟨v2, rfl, hown, hL⟩; have d0 := hL.cell (w := w.drew) c0; have d1 := hL.cell (w := w.drew) c1; have d2 := hL.cell (w := w.drew) c2; have HL := hid ((Later.drew w).trans hL); obtain ⟨g, c2', rfl, e0, e1, e2, _, _⟩ := hown.three; clear hL hown))
      clear d0 d1 d2 c0 c1 c2
      go_wp2_with fail
      go_region_held3 (fun w' => w'.cell? ⟨g, 0, none⟩ = some (.int .i64 (low3 x y z)) ∧ w'.cell? ⟨g, 1, none⟩ = some (.int .i64 (mid3 x y z)) ∧ w'.cell? ⟨g, 2, none⟩ = some (.int .i64 (high3 x y z))) (first | exact ⟨e0, e1, e2⟩) (first | (go_at_call 123; refine (mkSolves_any _ _ _ _ (by have := HP3.out; omega) (by have := HP3.out; omega) (by have := HP3.out; omega)).mono ?_; rintro e w3 ⟨rfl, rfl⟩; rw [HSS.out]))
      go_wp2_with fail
      go_ret2
      exact ⟨by rw [HA.out]; rfl, HL.out.trans (Later.drew _)⟩
  · have HA := hid (show solvesAns zs = none by unfold solvesAns; rw [if_neg (by simp [h3])])
    obtain ⟨a, cap, rfl, hl, _⟩ := id h
    have hn : ((zs.length : Int) != 3) = true := by simp; omega
    clear h
    go_enter Try.func54, Try.ntmps54
    go_wp2_with fail
    go_ret2
    exact ⟨by rw [HA.out]; rfl, Later.refl _⟩


theorem isCount_any (z : Int) (w : World) : Calls Try.prog 151 #[.int .i64 z] w fun e w' => e = .returned (.bool (within 1 1000000000 z)) ∧ w = w' := by
  by_cases h1 : 1 ≤ z
  · go_enter Try.func151, Try.ntmps151
    go_wp2
    go_ret
    exact ⟨ret_bool (by simp [within, h1]), rfl⟩
  · have hb : decide (1 ≤ z) = false := by simpa using h1
    go_enter Try.func151, Try.ntmps151
    go_wp2
    go_ret
    exact ⟨ret_bool (by symm; simp only [within, Bool.and_eq_false_iff, decide_eq_false_iff_not]; omega), rfl⟩
theorem areCounts1_any (z : Int) (w : World) : Calls Try.prog 150 #[.int .i64 z] w fun e w' => e = .returned (.bool (!within 1 1000000000 z)) ∧ w = w' := by
  go_enter Try.func150, Try.ntmps150
  go_wp2_with (first | (go_at_call 151; refine (isCount_any _ _).mono ?_; rintro e w' ⟨rfl, rfl⟩))
  go_ret
  exact ⟨rfl, rfl⟩

theorem any_take_succ {α : Type} (p : α → Bool) (zs : List α) (k : Nat) (h : k < zs.length) (ha : (zs.take k).any p = false) (hp : p zs[k] = false) : (zs.take (k + 1)).any p = false := by
  rw [List.take_succ_eq_append_getElem h, List.any_append, ha]; simp [hp]
theorem any_true_at {α : Type} (p : α → Bool) (zs : List α) (k : Nat) (h : k < zs.length) (hp : p zs[k] = true) : zs.any p = true := by
  rw [List.any_eq_true]; exact ⟨zs[k], List.getElem_mem h, hp⟩

set_option maxHeartbeats 400000 in
theorem indexFunc_any (v : Value) (zs : List Int) (F : Nat) (p : Int → Bool) (w : World) (eg : ∀ args w, (callFunc F args).run Try.prog w = .ok (.enter F args) w) (h : Ints w v zs)
    (hF : ∀ z w1, Calls Try.prog F #[.int .i64 z] w1 fun e w2 => e = .returned (.bool (p z)) ∧ w1 = w2) :
    Calls Try.prog 166 #[v, .func (.func F) #[] #[]] w fun e w' => (∃ r : Int, e = .returned (.int .i64 r) ∧ decide (0 ≤ r) = zs.any p) ∧ w = w' := by
  obtain ⟨a, cap, rfl, hl, hc⟩ := h
  have HC := hid hc; clear hc
  have HF := hid hF; clear hF
  go_enter Try.func166, Try.ntmps166
  go_wp2_with fail
  go_loop [8] (fun i => ∃ k : Nat, k ≤ zs.length ∧ i = .int .i64 k ∧ (zs.take k).any p = false) (fun i => zs.length - (intOf i).toNat)
  case atStart => exact ⟨0, Nat.zero_le _, rfl, rfl⟩
  case round =>
    obtain ⟨k, hk, rfl, hal⟩ := hrel
    have HA := hid hal; clear hal
    by_cases hlt : k < zs.length
    · obtain ⟨ad, rfl, hcell⟩ := HC.out k hlt
      rw [getD_at zs k hlt] at hcell
      cases hb : p zs[k]
      · have HB := hid hb; clear hb
        go_wp2_with fail
        refine (HF.out _ _).mono ?_
        rintro e w' ⟨rfl, rfl⟩
        rw [HB.out]
        go_wp2_with fail
        go_round
        case rel => exact ⟨k + 1, hlt, by go_num, any_take_succ _ zs k hlt HA.out HB.out⟩
        case measure => simp [intOf]; omega
      · have HB := hid hb; clear hb
        go_wp2_with fail
        refine (HF.out _ _).mono ?_
        rintro e w' ⟨rfl, rfl⟩
        rw [HB.out]
        go_wp2_with fail
        go_ret
        exact ⟨⟨_, rfl, by rw [any_true_at _ zs k hlt HB.out]; simp⟩, rfl⟩
    · go_wp2_with fail
      go_ret
      exact ⟨⟨_, rfl, by rw [← take_all zs k (by omega), HA.out]; rfl⟩, rfl⟩
theorem containsFunc_any (v : Value) (zs : List Int) (F : Nat) (p : Int → Bool) (w : World) (eg : ∀ args w, (callFunc F args).run Try.prog w = .ok (.enter F args) w) (h : Ints w v zs)
    (hF : ∀ z w1, Calls Try.prog F #[.int .i64 z] w1 fun e w2 => e = .returned (.bool (p z)) ∧ w1 = w2) :
    Calls Try.prog 149 #[v, .func (.func F) #[] #[]] w fun e w' => e = .returned (.bool (zs.any p)) ∧ w = w' := by
  have H := hid h
  clear h
  go_enter Try.func149, Try.ntmps149
  go_wp2_with fail
  refine (indexFunc_any v zs F p w eg H.out hF).mono ?_
  rintro e w' ⟨⟨r, rfl, hr⟩, rfl⟩
  go_wp2_with fail
  go_ret
  first | exact ⟨ret_bool hr, rfl⟩ | exact ⟨rfl, rfl⟩
theorem areCounts_as (v : Value) (zs : List Int) (b : Bool) (w : World) (hb : areCnt zs = b) (h : Ints w v zs) :
    Calls Try.prog 120 #[v] w fun e w' => e = .returned (.bool b) ∧ w = w' := by
  have H := hid h
  have HB := hid hb
  clear h hb
  go_enter Try.func120, Try.ntmps120
  go_wp2_with fail
  refine (containsFunc_any v zs 150 (fun z => !within 1 1000000000 z) w Try.call150 H.out areCounts1_any).mono ?_
  rintro e w' ⟨rfl, rfl⟩
  go_wp2_with fail
  go_ret
  exact ⟨ret_bool (by rw [← HB.out]; unfold areCnt; rw [List.not_any_eq_all_not]; simp), rfl⟩

set_option maxHeartbeats 1000000 in
theorem solves_any (x y z : Int) (w : World) (hx : 1 ≤ x ∧ x ≤ 1000000000) (hy : 1 ≤ y ∧ y ≤ 1000000000) (hz : 1 ≤ z ∧ z ≤ 1000000000) :
    Calls Try.prog 121 #[.agg #[.int .i64 x, .int .i64 y, .int .i64 z]] w fun e w' => e = .returned (.bool (solves3 x y z)) ∧ Later w w' := by
  obtain ⟨hx1, hx2⟩ := hx
  obtain ⟨hy1, hy2⟩ := hy
  obtain ⟨hz1, hz2⟩ := hz
  have a1 := mul_le18 hx1 hx2 hx1 hx2
  have a2 := mul_le18 hy1 hy2 hy1 hy2
  have a6 := mul_le18 hz1 hz2 hz1 hz2
  have a3 := mul_le18 hx1 hx2 hy1 hy2
  have a4 : 3 * x * y = 3 * (x * y) := by grind
  have a5 : 1 ≤ 3 * x * y ∧ 3 * x * y ≤ 3000000000000000000 := by omega
  obtain ⟨p1, p2⟩ := a1
  obtain ⟨p3, p4⟩ := a2
  obtain ⟨p5, p6⟩ := a5
  obtain ⟨p7, p8⟩ := a6
  have HS := hid (solves_impl x y z hz1)
  clear a3 a4
  have c0 : (w.alloc (.cells #[.int .i64 x, .int .i64 y, .int .i64 z] 106)).cell? ⟨w.heap.size, 0, none⟩ = some (.int .i64 x) := by simp [go_sem]
  have c1 : (w.alloc (.cells #[.int .i64 x, .int .i64 y, .int .i64 z] 106)).cell? ⟨w.heap.size, 1, none⟩ = some (.int .i64 y) := by simp [go_sem]
  have c2 : (w.alloc (.cells #[.int .i64 x, .int .i64 y, .int .i64 z] 106)).cell? ⟨w.heap.size, 2, none⟩ = some (.int .i64 z) := by simp [go_sem]
  have HL := hid (Later.alloc w (.cells #[.int .i64 x, .int .i64 y, .int .i64 z] 106))
  by_cases hr : (x * x + y * y + z * z) % z = 0
  · have hr' : ((x * x + y * y + z * z) % z == 0) = true := by simp [hr]
    have HR := hid hr
    have z0 : ¬ z = 0 := by omega
    have zb : (z == 0) = false := by simp; omega
    have q0 : (x * x + y * y + z * z).tmod z = 0 := by rw [Int.tmod_eq_emod_of_nonneg (by omega), hr]
    obtain ⟨q, hq0⟩ : ∃ q, q = (x * x + y * y + z * z) / z := ⟨_, rfl⟩
    have hqb : 0 ≤ q ∧ q ≤ x * x + y * y + z * z := by rw [hq0]; exact ⟨Int.ediv_nonneg (by omega) (by omega), Int.ediv_le_self _ (by omega)⟩
    have q1 : (x * x + y * y + z * z).tdiv z = q := by rw [hq0]; exact Int.tdiv_eq_ediv_of_nonneg (by omega)
    have qw : IntKind.i64.wrap q = q := by rw [IntWalk.i64_left]; exact IntWalk.wrap64_in _ (by omega)
    have HQ0 := hid hq0
    clear hq0 hqb
    clear hr
    go_enter Try.func121, Try.ntmps121
    go_wp2_with fail
    generalize w.alloc (.cells #[.int .i64 x, .int .i64 y, .int .i64 z] 106) = w1 at c0 c1 c2 HL ⊢
    go_quiet (fail)
    go_wp2_with fail
    go_ret
    refine ⟨ret_bool ?_, by first | exact HL.out | exact HL.out.trans (Later.drew _) | exact HL.out.trans (Later.drewN _ _)⟩
    have h2 := HS.out
    rw [← HQ0.out] at h2
    simp only [HR.out, true_and] at h2
    unfold solves3
    rw [Bool.eq_iff_iff, beq_iff_eq, decide_eq_true_iff]
    exact h2
  · have hr' : ((x * x + y * y + z * z) % z == 0) = false := beq_eq_false_iff_ne.2 hr
    have HR := hid hr
    have z0 : ¬ z = 0 := by omega
    have zb : (z == 0) = false := by simp; omega
    obtain ⟨r, hr0⟩ : ∃ r, r = (x * x + y * y + z * z) % z := ⟨_, rfl⟩
    have q0 : (x * x + y * y + z * z).tmod z = r := by rw [Int.tmod_eq_emod_of_nonneg (by omega), hr0]
    rw [← hr0] at hr'
    have HR0 := hid hr0
    clear hr0
    obtain ⟨q, hq0⟩ : ∃ q, q = (x * x + y * y + z * z) / z := ⟨_, rfl⟩
    have hqb : 0 ≤ q ∧ q ≤ x * x + y * y + z * z := by rw [hq0]; exact ⟨Int.ediv_nonneg (by omega) (by omega), Int.ediv_le_self _ (by omega)⟩
    have q1 : (x * x + y * y + z * z).tdiv z = q := by rw [hq0]; exact Int.tdiv_eq_ediv_of_nonneg (by omega)
    have qw : IntKind.i64.wrap q = q := by rw [IntWalk.i64_left]; exact IntWalk.wrap64_in _ (by omega)
    have HQ0 := hid hq0
    clear hq0 hqb
    clear hr
    go_enter Try.func121, Try.ntmps121
    go_wp2_with fail
    generalize w.alloc (.cells #[.int .i64 x, .int .i64 y, .int .i64 z] 106) = w1 at c0 c1 c2 HL ⊢
    go_quiet (fail)
    go_wp2_with fail
    go_ret
    refine ⟨ret_bool ?_, by first | exact HL.out | exact HL.out.trans (Later.drew _) | exact HL.out.trans (Later.drewN _ _)⟩
    have h2 := HS.out
    simp only [HR.out, false_and, false_iff] at h2
    unfold solves3
    rw [decide_eq_false h2]

set_option maxRecDepth 20000 in
set_option maxHeartbeats 1000000 in
theorem implSolvesMarkov_any (v : Value) (zs : List Int) (w : World) (h : Ints w v zs) :
    Calls Try.prog 53 #[v] w fun e w' => BoolAns w (solvesAns zs) e w' := by
  by_cases h3 : zs.length = 3
  · cases hcn : areCnt zs
    · have HA := hid (show solvesAns zs = none by unfold solvesAns; rw [if_neg (by simp [hcn])])
      have HC := hid hcn
      obtain ⟨a, cap, rfl, hl, _⟩ := id h
      have H := hid h
      have hn : ((zs.length : Int) != 3) = false := by simp [h3]
      clear h hcn h3
      go_enter Try.func53, Try.ntmps53
      go_wp2_with fail
      refine (areCounts_as _ zs false _ HC.out H.out).mono ?_
      rintro e w' ⟨rfl, rfl⟩
      go_wp2_with fail
      go_ret2
      exact ⟨by rw [HA.out]; rfl, Later.refl _⟩
    · obtain ⟨x, y, z, ad, cap, rfl, rfl, c0, c1, c2⟩ := h.three h3
      obtain ⟨hx, hy, hz⟩ := areCnt3 hcn
      have HA := hid (show solvesAns [x, y, z] = some (solves3 x y z) by unfold solvesAns; rw [if_pos ⟨rfl, hcn⟩]; rfl)
      have ha : ∀ w, (Instr.arrayAt 106 (.slice (some ad) 3 cap)).run Try.prog w = .ok (.pointer (some ad)) w := fun w => run_arrayAt w _ _ _ _ _ _ Try.underlying106 (by omega)
      have HC := hid hcn
      have H := hid h
      clear h hcn h3
      go_enter Try.func53, Try.ntmps53
      go_wp2_with fail
      refine (areCounts_as (.slice (some ad) 3 cap) [x, y, z] true _ HC.out H.out).mono ?_
      rintro e w' ⟨rfl, rfl⟩
      go_wp2_with fail
      refine (solves_any x y z _ hx hy hz).mono ?_
      rintro e w2 ⟨rfl, hL⟩
      have HL := hid hL
      clear hL
      go_wp2_with fail
      go_ret2
      exact ⟨by rw [HA.out]; rfl, HL.out⟩
  · have HA := hid (show solvesAns zs = none by unfold solvesAns; rw [if_neg (by simp [h3])])
    obtain ⟨a, cap, rfl, hl, _⟩ := id h
    have hn : ((zs.length : Int) != 3) = true := by simp; omega
    clear h h3
    go_enter Try.func53, Try.ntmps53
    go_wp2_with fail
    go_ret2
    exact ⟨by rw [HA.out]; rfl, Later.refl _⟩


def mkGoodW (zs : List Int) : Bool := decide (zs.length = 3) && areCnt zs && decide (zs.getD 0 0 ≤ zs.getD 1 0) && decide (zs.getD 1 0 ≤ zs.getD 2 0) && solves3 (zs.getD 0 0) (zs.getD 1 0) (zs.getD 2 0)
theorem mkGoodW3 (x y z : Int) : mkGoodW [x, y, z] = (areCnt [x, y, z] && decide (x ≤ y) && decide (y ≤ z) && solves3 x y z) := by simp [mkGoodW]
/-- A list that is a triple. -/
theorem mkGoodW_three {zs : List Int} (h : mkGoodW zs = true) : ∃ x y z, zs = [x, y, z] ∧ (1 ≤ x ∧ x ≤ 1000000000) ∧ (1 ≤ y ∧ y ≤ 1000000000) ∧ (1 ≤ z ∧ z ≤ 1000000000) ∧ x ≤ y ∧ y ≤ z ∧ x * x + y * y + z * z = 3 * x * y * z := by
  have h3 : zs.length = 3 := by simp only [mkGoodW, Bool.and_eq_true, decide_eq_true_eq] at h; exact h.1.1.1.1
  match zs, h3 with
  | [x, y, z], _ =>
    rw [mkGoodW3] at h
    simp only [Bool.and_eq_true, decide_eq_true_eq, solves3] at h
    have := areCnt3 h.1.1.1
    exact ⟨x, y, z, rfl, this.1, this.2.1, this.2.2, h.1.1.2, h.1.2, h.2⟩

def Quiet (w w' : World) : Prop := ∃ n, w' = w.drewN n
theorem Quiet.later {w w' : World} (h : Quiet w w') : Later w w' := by obtain ⟨n, rfl⟩ := h; exact Later.drewN _ _
theorem Quiet.refl (w : World) : Quiet w w := ⟨0, rfl⟩

set_option maxRecDepth 20000 in
set_option maxHeartbeats 2000000 in
theorem mkGood_any (v : Value) (zs : List Int) (w : World) (h : Ints w v zs) :
    Calls Try.prog 108 #[v] w fun e w' => e = .returned (.bool (mkGoodW zs)) ∧ Quiet w w' := by
  by_cases h3 : zs.length = 3
  · obtain ⟨x, y, z, ad, cap, rfl, rfl, c0, c1, c2⟩ := h.three h3
    have H := hid h
    clear h h3
    cases hcn : areCnt [x, y, z]
    · have HA := hid (show mkGoodW [x, y, z] = false by rw [mkGoodW3, hcn]; rfl)
      have HC := hid (show [x, y, z].all (within 1 1000000000) = false from hcn)
      clear hcn
      go_enter Try.func108, Try.ntmps108
      go_wp2_with fail
      go_quiet (first | (go_at_call 97; exact Calls.quiet_of_same ((l1All_as (.slice (some ad) 3 cap) [x, y, z] 1 1000000000 false _ HC.out (H.out.later (Later.drewN _ _))).mono fun _ _ ⟨a, b⟩ => ⟨a, b.symm⟩)))
      go_wp2_with fail
      go_ret
      exact ⟨ret_bool HA.out.symm, _, rfl⟩
    · have HC := hid (show [x, y, z].all (within 1 1000000000) = true from hcn)
      obtain ⟨hx, hy, hz⟩ := areCnt3 hcn
      by_cases hxy : x ≤ y
      · by_cases hyz : y ≤ z
        · have HA := hid (show mkGoodW [x, y, z] = solves3 x y z by rw [mkGoodW3, hcn, decide_eq_true hxy, decide_eq_true hyz]; rfl)
          have hd1 : decide (x ≤ y) = true := decide_eq_true hxy
          have hd2 : decide (y ≤ z) = true := decide_eq_true hyz
          clear hcn
          go_enter Try.func108, Try.ntmps108
          go_wp2_with fail
          go_quiet (first | (go_at_call 97; exact Calls.quiet_of_same ((l1All_as (.slice (some ad) 3 cap) [x, y, z] 1 1000000000 true _ HC.out (H.out.later (Later.drewN _ _))).mono fun _ _ ⟨a, b⟩ => ⟨a, b.symm⟩)) | (go_at_call 123; exact Calls.quiet_of_same ((mkSolves_any x y z _ hx hy hz).mono fun _ _ ⟨a, b⟩ => ⟨a, b.symm⟩)))
          go_wp2_with fail
          go_ret
          exact ⟨ret_bool HA.out.symm, _, rfl⟩
        · have HA := hid (show mkGoodW [x, y, z] = false by rw [mkGoodW3, decide_eq_false hyz]; simp)
          have hd1 : decide (x ≤ y) = true := decide_eq_true hxy
          have hd2 : decide (y ≤ z) = false := decide_eq_false hyz
          clear hcn
          go_enter Try.func108, Try.ntmps108
          go_wp2_with fail
          go_quiet (first | (go_at_call 97; exact Calls.quiet_of_same ((l1All_as (.slice (some ad) 3 cap) [x, y, z] 1 1000000000 true _ HC.out (H.out.later (Later.drewN _ _))).mono fun _ _ ⟨a, b⟩ => ⟨a, b.symm⟩)))
          go_wp2_with fail
          go_ret
          exact ⟨ret_bool HA.out.symm, _, rfl⟩
      · have HA := hid (show mkGoodW [x, y, z] = false by rw [mkGoodW3, decide_eq_false hxy]; simp)
        have hd1 : decide (x ≤ y) = false := decide_eq_false hxy
        clear hcn
        go_enter Try.func108, Try.ntmps108
        go_wp2_with fail
        go_quiet (first | (go_at_call 97; exact Calls.quiet_of_same ((l1All_as (.slice (some ad) 3 cap) [x, y, z] 1 1000000000 true _ HC.out (H.out.later (Later.drewN _ _))).mono fun _ _ ⟨a, b⟩ => ⟨a, b.symm⟩)))
        go_wp2_with fail
        go_ret
        exact ⟨ret_bool HA.out.symm, _, rfl⟩
  · have HA := hid (show mkGoodW zs = false by unfold mkGoodW; rw [decide_eq_false h3]; simp)
    obtain ⟨a, cap, rfl, hl, _⟩ := id h
    have hn : ((zs.length : Int) == 3) = false := by simp; omega
    clear h h3
    go_enter Try.func108, Try.ntmps108
    go_wp2_with fail
    go_quiet (fail)
    go_wp2_with fail
    go_ret
    exact ⟨ret_bool HA.out.symm, _, rfl⟩
theorem mkGood_as (v : Value) (zs : List Int) (b : Bool) (w : World) (hb : mkGoodW zs = b) (h : Ints w v zs) :
    Calls Try.prog 108 #[v] w fun e w' => e = .returned (.bool b) ∧ Quiet w w' := by
  subst hb; exact mkGood_any v zs w h
/-! ### slices.IsSorted at three numbers -/

theorem isNaN_any (x : Int) (w : World) : Calls Try.prog 154 #[.int .i64 x] w fun e w' => e = .returned (.bool false) ∧ w = w' := by
  go_enter Try.func154, Try.ntmps154
  go_wp2_with fail
  go_ret
  exact ⟨ret_bool (by simp), rfl⟩
theorem cmpLess_any0 (x y : Int) (w : World) : Calls Try.prog 145 #[.int .i64 x, .int .i64 y] w fun e w' => e = .returned (.bool (decide (x < y))) ∧ w = w' := by
  go_enter Try.func145, Try.ntmps145
  go_wp2_with (first | (go_at_call 154; refine (isNaN_any _ _).mono ?_; rintro e w' ⟨rfl, rfl⟩))
  go_ret
  exact ⟨rfl, rfl⟩
theorem cmpLess_as (x y : Int) (b : Bool) (w : World) (h : decide (x < y) = b) : Calls Try.prog 145 #[.int .i64 x, .int .i64 y] w fun e w' => e = .returned (.bool b) ∧ w = w' := by
  subst h; exact cmpLess_any0 x y w
set_option maxRecDepth 20000 in
set_option maxHeartbeats 2000000 in
theorem isSorted3_any (x y z : Int) (ad : Addr) (cap : Nat) (w : World) (h : Ints w (.slice (some ad) 3 cap) [x, y, z]) :
    Calls Try.prog 110 #[.slice (some ad) 3 cap] w fun e w' => e = .returned (.bool (decide (x ≤ y) && decide (y ≤ z))) ∧ Quiet w w' := by
  obtain ⟨x', y', z', ad', cap', e1, e2, c0, c1, c2⟩ := h.three rfl
  simp only [Value.slice.injEq, Option.some.injEq, true_and, List.cons.injEq, and_true] at e1 e2
  obtain ⟨rfl, rfl, rfl⟩ := e1
  obtain ⟨rfl, rfl⟩ := e2
  clear h
  go_enter Try.func110, Try.ntmps110
  go_wp2_with fail
  go_loopw [3] (fun i wr => Quiet w wr ∧ (i = .int .i64 2 ∨ (i = .int .i64 1 ∧ y ≤ z) ∨ (i = .int .i64 0 ∧ x ≤ y ∧ y ≤ z))) (fun i _ => (intOf i).toNat)
  case atStart => exact ⟨Quiet.refl w, .inl rfl⟩
  case round =>
    obtain ⟨hq, hc⟩ := hrel
    have c0r := hq.later.cell c0
    have c1r := hq.later.cell c1
    have c2r := hq.later.cell c2
    have HQ := hid hq
    clear hq
    rcases hc with rfl | ⟨rfl, hyz⟩ | ⟨rfl, hxy, hyz⟩
    · by_cases hyz : y ≤ z
      · have hd : decide (z < y) = false := decide_eq_false (by omega)
        go_wp2_with fail
        go_quiet (first | (go_at_call 145; exact Calls.quiet_of_same ((cmpLess_as _ _ _ _ hd).mono fun _ _ ⟨a, b⟩ => ⟨a, b.symm⟩)))
        go_wp2_with fail
        go_roundw
        case rel => exact ⟨by obtain ⟨n, hn⟩ := HQ.out; subst hn; exact ⟨_, by rw [World.drewN_drewN]⟩, .inr (.inl ⟨rfl, hyz⟩)⟩
        case measure => simp [intOf]
      · have hd : decide (z < y) = true := decide_eq_true (by omega)
        go_wp2_with fail
        go_quiet (first | (go_at_call 145; exact Calls.quiet_of_same ((cmpLess_as _ _ _ _ hd).mono fun _ _ ⟨a, b⟩ => ⟨a, b.symm⟩)))
        go_wp2_with fail
        go_ret
        exact ⟨ret_bool (by simp [hyz]), by obtain ⟨n, hn⟩ := HQ.out; subst hn; exact ⟨_, by rw [World.drewN_drewN]⟩⟩
    · by_cases hxy : x ≤ y
      · have hd : decide (y < x) = false := decide_eq_false (by omega)
        go_wp2_with fail
        go_quiet (first | (go_at_call 145; exact Calls.quiet_of_same ((cmpLess_as _ _ _ _ hd).mono fun _ _ ⟨a, b⟩ => ⟨a, b.symm⟩)))
        go_wp2_with fail
        go_roundw
        case rel => exact ⟨by obtain ⟨n, hn⟩ := HQ.out; subst hn; exact ⟨_, by rw [World.drewN_drewN]⟩, .inr (.inr ⟨rfl, hxy, hyz⟩)⟩
        case measure => simp [intOf]
      · have hd : decide (y < x) = true := decide_eq_true (by omega)
        go_wp2_with fail
        go_quiet (first | (go_at_call 145; exact Calls.quiet_of_same ((cmpLess_as _ _ _ _ hd).mono fun _ _ ⟨a, b⟩ => ⟨a, b.symm⟩)))
        go_wp2_with fail
        go_ret
        exact ⟨ret_bool (show false = (decide (x ≤ y) && decide (y ≤ z)) by rw [decide_eq_false (by omega)]; rfl), by obtain ⟨n, hn⟩ := HQ.out; subst hn; exact ⟨_, by rw [World.drewN_drewN]⟩⟩
    · go_wp2_with fail
      go_ret
      exact ⟨ret_bool (by simp [hxy, hyz]), HQ.out⟩
theorem isSorted3_as (x y z : Int) (b : Bool) (ad : Addr) (cap : Nat) (w : World) (hb : (decide (x ≤ y) && decide (y ≤ z)) = b) (h : Ints w (.slice (some ad) 3 cap) [x, y, z]) :
    Calls Try.prog 110 #[.slice (some ad) 3 cap] w fun e w' => e = .returned (.bool b) ∧ Quiet w w' := by
  subst hb; exact isSorted3_any x y z ad cap w h

set_option maxHeartbeats 1000000 in
theorem implIsMarkov_any (v : Value) (zs : List Int) (w : World) (h : Ints w v zs) :
    Calls Try.prog 45 #[v] w fun e w' => BoolRes w (mkGoodW zs) e w' := by
  have H := hid h
  obtain ⟨a, cap, rfl, hl, _⟩ := id h
  clear h
  cases hs : (solvesAns zs).getD false
  · have HS := hid hs
    have HA := hid (show mkGoodW zs = false by
      cases hg : mkGoodW zs
      · rfl
      · obtain ⟨x, y, z, rfl, hx, hy, hz, _, _, he⟩ := mkGoodW_three hg
        rw [solvesAns, if_pos ⟨rfl, by simp [areCnt, within, hx.1, hx.2, hy.1, hy.2, hz.1, hz.2]⟩] at hs
        simp only [Option.getD_some, solves3] at hs
        exact absurd he (of_decide_eq_false hs))
    clear hs
    go_enter Try.func45, Try.ntmps45
    go_wp2_with fail
    refine (implSolvesMarkov_any _ zs _ H.out).mono ?_
    rintro e w2 ⟨rfl, hL⟩
    rw [HS.out]
    have HL := hid hL
    clear hL
    go_wp2_with fail
    go_ret
    exact ⟨ret_bool HA.out.symm, HL.out⟩
  · have HS := hid hs
    have hx : ∃ x y z, zs = [x, y, z] ∧ areCnt zs = true ∧ solves3 x y z = true := by
      unfold solvesAns at hs
      split at hs
      · rename_i h
        match zs, h.1 with
        | [x, y, z], _ => exact ⟨x, y, z, rfl, h.2, by simpa using hs⟩
      · simp at hs
    obtain ⟨x, y, z, rfl, hc, hso⟩ := hx
    have HA := hid (show mkGoodW [x, y, z] = (decide (x ≤ y) && decide (y ≤ z)) by rw [mkGoodW3, hc, hso]; simp)
    obtain ⟨ad, rfl⟩ : ∃ ad, a = some ad := by
      obtain ⟨_, _, _, ad, _, _, e, _⟩ := H.out.three rfl
      simp only [Value.slice.injEq] at e
      exact ⟨ad, e.1⟩
    clear hs hc hso
    go_enter Try.func45, Try.ntmps45
    go_wp2_with fail
    refine (implSolvesMarkov_any _ [x, y, z] _ H.out).mono ?_
    rintro e w2 ⟨rfl, hL⟩
    rw [HS.out]
    have HL := hid hL
    clear hL
    go_wp2_with fail
    refine (isSorted3_as x y z _ ad cap _ rfl (H.out.later HL.out)).mono ?_
    rintro e w3 ⟨rfl, hL⟩
    have HL3 := hid (HL.out.trans hL.later)
    clear hL
    go_wp2_with fail
    go_ret
    exact ⟨ret_bool HA.out.symm, HL3.out⟩


def invF : Nat → Int → Int → Int → Int → Int
  | 0, _, _, u, _ => u
  | k + 1, a, b, u, v => if b = 0 then u else invF k b (a - a / b * b) v (wrap64 (u - wrap64 (a / b * v)))
def invG (a b u v : Int) : Int := invF (b.toNat + 1) a b u v
theorem sub_quo (a b : Int) (_hb : 0 < b) : a - a / b * b = a % b := by
  have := Int.mul_ediv_add_emod a b
  have h2 : a / b * b = b * (a / b) := Int.mul_comm _ _
  omega
theorem invF_more (k : Nat) : ∀ (j : Nat) (a b u v : Int), 0 ≤ b → b.toNat < k → b.toNat < j → invF k a b u v = invF j a b u v := by
  induction k with
  | zero => intro j a b u v _ h; omega
  | succ k ih =>
    intro j a b u v h0 h1 h2
    cases j with
    | zero => omega
    | succ j =>
      unfold invF
      split
      · rfl
      · rename_i hb
        rw [sub_quo a b (by omega)]
        have p1 := Int.emod_nonneg a hb
        have p2 := Int.emod_lt_of_pos a (show 0 < b by omega)
        exact ih j b _ _ _ p1 (by omega) (by omega)
theorem invG_zero (a u v : Int) : invG a 0 u v = u := by simp [invG, invF]
theorem invG_step (a b u v : Int) (hb : 0 < b) : invG a b u v = invG b (a - a / b * b) v (wrap64 (u - wrap64 (a / b * v))) := by
  have h := sub_quo a b hb
  have p1 := Int.emod_nonneg a (show b ≠ 0 by omega)
  have p2 := Int.emod_lt_of_pos a hb
  unfold invG
  rw [show invF (b.toNat + 1) a b u v = invF b.toNat b (a - a / b * b) v (wrap64 (u - wrap64 (a / b * v))) by rw [invF, if_neg (by omega)], h]
  exact invF_more _ _ _ _ _ _ p1 (by omega) (by omega)
def remT (u m : Int) : Int := (u.tmod m + m).tmod m
theorem tmod_in (u m : Int) (hm : 1 ≤ m) : -m < u.tmod m ∧ u.tmod m < m := by
  have h := Int.natAbs_tmod u m
  have h2 : u.natAbs % m.natAbs < m.natAbs := Nat.mod_lt _ (by omega)
  omega
theorem remT_in (u m : Int) (hm : 1 ≤ m) : 0 ≤ remT u m ∧ remT u m < m := by
  have h := tmod_in u m hm
  unfold remT
  rw [Int.tmod_eq_emod_of_nonneg (by omega)]
  exact ⟨Int.emod_nonneg _ (by omega), Int.emod_lt_of_pos _ (by omega)⟩
theorem remT_one (u : Int) : remT u 1 = 0 := by
  have := remT_in u 1 (by omega); omega

def minusAns (zs : List Int) : Option Int := if mkGoodW zs = true then some (remT (invG (zs.getD 2 0) (zs.getD 0 0 % zs.getD 2 0) 0 1) (zs.getD 2 0) * (zs.getD 1 0 % zs.getD 2 0) % zs.getD 2 0) else none
theorem minus_same (x y z : Int) (hx : 1 ≤ x) (hxy : x ≤ y) (hyz : y ≤ z) (he : x * x + y * y + z * z = 3 * x * y * z) :
    (y * remT (invG z x 0 1) z) % z = (remT (invG z (x % z) 0 1) z * (y % z)) % z := by
  by_cases hz : x < z
  · rw [Int.emod_eq_of_lt (by omega) hz, Int.mul_comm y, Int.mul_emod, Int.mul_emod (remT _ _) (y % z), Int.emod_emod]
  · obtain rfl : x = z := by omega
    obtain rfl : y = x := by omega
    have h1 : y * y * (y - 1) = 0 := by grind
    have h2 : y = 1 := by
      rcases Int.mul_eq_zero.1 h1 with h | h
      · rcases Int.mul_eq_zero.1 h with h | h <;> omega
      · omega
    subst h2
    rw [Int.emod_one, Int.emod_one]

end Go.Proofs.Ytdahhcigphhfdab
