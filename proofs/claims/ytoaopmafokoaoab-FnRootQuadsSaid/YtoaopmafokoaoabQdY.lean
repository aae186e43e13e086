/- Four curvatures: packing at a root that does not fall (the program). -/
import Derived.Test.YtoaopmafokoaoabQdN
import Derived.Test.YtoaopmafokoaoabQdJ
namespace Go.Proofs.Ytoaopmafokoaoab
open Go.RowKit

theorem setP_far (w : World) (B b : Nat) (p q r s t : Value) (h : b ≠ B) :
    (((((w.setCell ⟨B, 0, none⟩ p).setCell ⟨B, 1, none⟩ q).setCell ⟨B, 2, none⟩ r).setCell ⟨B, 3, none⟩ s).setCell ⟨B, 4, none⟩ t).heap[b]? = w.heap[b]? := by
  rw [heap_setCell_other _ _ b _ h, heap_setCell_other _ _ b _ h, heap_setCell_other _ _ b _ h, heap_setCell_other _ _ b _ h, heap_setCell_other _ _ b _ h]
theorem setP_cell {w : World} {B b k : Nat} {v : Value} (p q r s t : Value) (h : b ≠ B) (hc : w.cell? ⟨b, k, none⟩ = some v) :
    (((((w.setCell ⟨B, 0, none⟩ p).setCell ⟨B, 1, none⟩ q).setCell ⟨B, 2, none⟩ r).setCell ⟨B, 3, none⟩ s).setCell ⟨B, 4, none⟩ t).cell? ⟨b, k, none⟩ = some v :=
  cell_keep hc (setP_far w B b p q r s t h)
theorem setP_later {w0 w : World} {B : Nat} (h : Later w0 w) (hB : w0.heap.size ≤ B) (p q r s t : Value) :
    Later w0 (((((w.setCell ⟨B, 0, none⟩ p).setCell ⟨B, 1, none⟩ q).setCell ⟨B, 2, none⟩ r).setCell ⟨B, 3, none⟩ s).setCell ⟨B, 4, none⟩ t) :=
  Below.setCell (Below.setCell (Below.setCell (Below.setCell (Below.setCell h hB _) hB _) hB _) hB _) hB _
/-- Five cells of block B: a quad and a number. -/
structure QPack (w : World) (B : Nat) (a b c d g : Int) : Prop where
  c0 : w.cell? ⟨B, 0, none⟩ = some (.int .i64 a)
  c1 : w.cell? ⟨B, 1, none⟩ = some (.int .i64 b)
  c2 : w.cell? ⟨B, 2, none⟩ = some (.int .i64 c)
  c3 : w.cell? ⟨B, 3, none⟩ = some (.int .i64 d)
  c4 : w.cell? ⟨B, 4, none⟩ = some (.int .i64 g)
theorem setP_all {w : World} {B : Nat} {v0 v1 v2 v3 v4 : Value} (h0 : w.cell? ⟨B, 0, none⟩ = some v0) (h1 : w.cell? ⟨B, 1, none⟩ = some v1) (h2 : w.cell? ⟨B, 2, none⟩ = some v2) (h3 : w.cell? ⟨B, 3, none⟩ = some v3) (h4 : w.cell? ⟨B, 4, none⟩ = some v4) (a b c d g : Int) :
    QPack (((((w.setCell ⟨B, 0, none⟩ (.int .i64 a)).setCell ⟨B, 1, none⟩ (.int .i64 b)).setCell ⟨B, 2, none⟩ (.int .i64 c)).setCell ⟨B, 3, none⟩ (.int .i64 d)).setCell ⟨B, 4, none⟩ (.int .i64 g)) B a b c d g := by
  have o : ∀ (w : World) (i j : Nat) (u : Value), i ≠ j → (w.setCell ⟨B, i, none⟩ u).cell? ⟨B, j, none⟩ = w.cell? ⟨B, j, none⟩ := fun w i j u h => World.cell?_setCell_other _ _ _ _ (by intro e; injection e with _ e2; exact h e2)
  refine ⟨?_, ?_, ?_, ?_, ?_⟩
  · rw [o _ 4 0 _ (by omega), o _ 3 0 _ (by omega), o _ 2 0 _ (by omega), o _ 1 0 _ (by omega)]; exact World.cell?_setCell_same _ _ _ h0
  · rw [o _ 4 1 _ (by omega), o _ 3 1 _ (by omega), o _ 2 1 _ (by omega)]; exact World.cell?_setCell_same _ _ _ (by rw [o _ 0 1 _ (by omega)]; exact h1)
  · rw [o _ 4 2 _ (by omega), o _ 3 2 _ (by omega)]; exact World.cell?_setCell_same _ _ _ (by rw [o _ 1 2 _ (by omega), o _ 0 2 _ (by omega)]; exact h2)
  · rw [o _ 4 3 _ (by omega)]; exact World.cell?_setCell_same _ _ _ (by rw [o _ 2 3 _ (by omega), o _ 1 3 _ (by omega), o _ 0 3 _ (by omega)]; exact h3)
  · exact World.cell?_setCell_same _ _ _ (by rw [o _ 3 4 _ (by omega), o _ 2 4 _ (by omega), o _ 1 4 _ (by omega), o _ 0 4 _ (by omega)]; exact h4)
theorem wayQ_root {zs : List Int} (h : lastQ zs = true) : wayQ zs = [zs] := by unfold wayQ; rw [belowQ_last h]
set_option maxRecDepth 20000 in
set_option maxHeartbeats 4000000 in
theorem packing_any (a b c d : Int) (w : World) (hq : QD a b c d) (hl : lastQ [a, b, c, d] = true) (hs : sortQ [a, b, c, d] = [a, b, c, d]) :
    Calls Try.prog 111 #[.agg #[.int .i64 a, .int .i64 b, .int .i64 c, .int .i64 d]] w fun e w' => e = .returned (.agg #[.int .i64 a, .int .i64 b, .int .i64 c, .int .i64 d, .int .i64 (gcdL [a, b, c, d])]) ∧ Later w w' := by
  have hA := Later.alloc w (.cells #[.int .i64 a, .int .i64 b, .int .i64 c, .int .i64 d] 62)
  have hA2 := Later.alloc (w.alloc (.cells #[.int .i64 a, .int .i64 b, .int .i64 c, .int .i64 d] 62)) (.cells #[.int .i64 0, .int .i64 0, .int .i64 0, .int .i64 0, .int .i64 0] 103)
  have HB := hid ((QBox.new w a b c d).later hA2)
  have HL := hid (hA.trans hA2)
  have hR : (w.alloc (.cells #[.int .i64 a, .int .i64 b, .int .i64 c, .int .i64 d] 62)).heap.size = w.heap.size + 1 := by simp
  have rr0 : ((w.alloc (.cells #[.int .i64 a, .int .i64 b, .int .i64 c, .int .i64 d] 62)).alloc (.cells #[.int .i64 0, .int .i64 0, .int .i64 0, .int .i64 0, .int .i64 0] 103)).cell? ⟨w.heap.size + 1, 0, none⟩ = some (.int .i64 0) := by rw [← hR]; simp [go_sem]
  have rr1 : ((w.alloc (.cells #[.int .i64 a, .int .i64 b, .int .i64 c, .int .i64 d] 62)).alloc (.cells #[.int .i64 0, .int .i64 0, .int .i64 0, .int .i64 0, .int .i64 0] 103)).cell? ⟨w.heap.size + 1, 1, none⟩ = some (.int .i64 0) := by rw [← hR]; simp [go_sem]
  have rr2 : ((w.alloc (.cells #[.int .i64 a, .int .i64 b, .int .i64 c, .int .i64 d] 62)).alloc (.cells #[.int .i64 0, .int .i64 0, .int .i64 0, .int .i64 0, .int .i64 0] 103)).cell? ⟨w.heap.size + 1, 2, none⟩ = some (.int .i64 0) := by rw [← hR]; simp [go_sem]
  have rr3 : ((w.alloc (.cells #[.int .i64 a, .int .i64 b, .int .i64 c, .int .i64 d] 62)).alloc (.cells #[.int .i64 0, .int .i64 0, .int .i64 0, .int .i64 0, .int .i64 0] 103)).cell? ⟨w.heap.size + 1, 3, none⟩ = some (.int .i64 0) := by rw [← hR]; simp [go_sem]
  have rr4 : ((w.alloc (.cells #[.int .i64 a, .int .i64 b, .int .i64 c, .int .i64 d] 62)).alloc (.cells #[.int .i64 0, .int .i64 0, .int .i64 0, .int .i64 0, .int .i64 0] 103)).cell? ⟨w.heap.size + 1, 4, none⟩ = some (.int .i64 0) := by rw [← hR]; simp [go_sem]
  have rf0 : ((w.alloc (.cells #[.int .i64 a, .int .i64 b, .int .i64 c, .int .i64 d] 62)).alloc (.cells #[.int .i64 0, .int .i64 0, .int .i64 0, .int .i64 0, .int .i64 0] 103)).frozen? ⟨w.heap.size + 1, 0, none⟩ = false := by rw [← hR]; simp [go_sem]
  have rf1 : ((w.alloc (.cells #[.int .i64 a, .int .i64 b, .int .i64 c, .int .i64 d] 62)).alloc (.cells #[.int .i64 0, .int .i64 0, .int .i64 0, .int .i64 0, .int .i64 0] 103)).frozen? ⟨w.heap.size + 1, 1, none⟩ = false := by rw [← hR]; simp [go_sem]
  have rf2 : ((w.alloc (.cells #[.int .i64 a, .int .i64 b, .int .i64 c, .int .i64 d] 62)).alloc (.cells #[.int .i64 0, .int .i64 0, .int .i64 0, .int .i64 0, .int .i64 0] 103)).frozen? ⟨w.heap.size + 1, 2, none⟩ = false := by rw [← hR]; simp [go_sem]
  have rf3 : ((w.alloc (.cells #[.int .i64 a, .int .i64 b, .int .i64 c, .int .i64 d] 62)).alloc (.cells #[.int .i64 0, .int .i64 0, .int .i64 0, .int .i64 0, .int .i64 0] 103)).frozen? ⟨w.heap.size + 1, 3, none⟩ = false := by rw [← hR]; simp [go_sem]
  have rf4 : ((w.alloc (.cells #[.int .i64 a, .int .i64 b, .int .i64 c, .int .i64 d] 62)).alloc (.cells #[.int .i64 0, .int .i64 0, .int .i64 0, .int .i64 0, .int .i64 0] 103)).frozen? ⟨w.heap.size + 1, 4, none⟩ = false := by rw [← hR]; simp [go_sem]
  have HW := hid (wayQ_root hl)
  have HQ := hid hq
  obtain ⟨G, hG⟩ : ∃ G, gcdL [a, b, c, d] = G := ⟨_, rfl⟩
  have HSC := hid (fun (w0 : World) => show Calls Try.prog 85 #[.agg #[.int .i64 a, .int .i64 b, .int .i64 c, .int .i64 d]] w0 fun e w' => e = .returned (.int .i64 G) ∧ Later w0 w' from hG ▸ scaleS_any a b c d w0 hq)
  have HSO := hid (fun (w0 : World) => show Calls Try.prog 56 #[.agg #[.int .i64 a, .int .i64 b, .int .i64 c, .int .i64 d]] w0 fun e w' => e = .returned (.agg #[.int .i64 a, .int .i64 b, .int .i64 c, .int .i64 d]) ∧ Later w0 w' from (sortedS_any a b c d w0).mono (fun e w' hh => by
    obtain ⟨p', q', r', s', h1, h2, h3⟩ := hh
    rw [hs] at h1
    simp only [List.cons.injEq, and_true] at h1
    obtain ⟨rfl, rfl, rfl, rfl⟩ := h1
    exact ⟨h2, h3⟩))
  rw [hG]
  clear hA hA2 hq hl hs hG hR
  go_enter Try.func111, Try.ntmps111
  go_upto_region 1 with fail
  generalize (w.alloc (.cells #[.int .i64 a, .int .i64 b, .int .i64 c, .int .i64 d] 62)).alloc (.cells #[.int .i64 0, .int .i64 0, .int .i64 0, .int .i64 0, .int .i64 0] 103) = w1 at HB HL rr0 rr1 rr2 rr3 rr4 rf0 rf1 rf2 rf3 rf4 ⊢
  obtain ⟨B, hB⟩ : ∃ B, w.heap.size = B := ⟨_, rfl⟩
  have HBW := hid (show w.heap.size ≤ B by omega)
  rw [hB] at HB rr0 rr1 rr2 rr3 rr4 rf0 rf1 rf2 rf3 rf4 ⊢
  clear hB
  obtain ⟨R, hRR⟩ : ∃ R, B + 1 = R := ⟨_, rfl⟩
  have HRB := hid hRR
  rw [hRR] at rr0 rr1 rr2 rr3 rr4 rf0 rf1 rf2 rf3 rf4 ⊢
  clear hRR
  obtain ⟨c0, c1, c2, c3, _, _, _, _⟩ := HB.out
  go_wp2_with fail
  refine (downPathS_any a b c d w1 HQ.out).mono ?_
  rintro e w3 ⟨v3, L, rfl, ho, hm, hL3⟩
  rw [HW.out] at hm
  have hLe : L = [(a, b, c, d)] := by
    match L, hm with
    | [s], hm =>
      obtain ⟨p', q', r', s'⟩ := s
      simp [qsL] at hm
      obtain ⟨rfl, rfl, rfl, rfl⟩ := hm
      rfl
  subst hLe
  obtain ⟨_, _, e1, _, hcs⟩ := ho.qs (by simp)
  obtain ⟨g, hgg, d0, d1, d2, d3⟩ := hcs 0 (by simp)
  have hgl := fun hh => (ho.lt g hh).1
  subst hgg
  subst e1
  have hgl2 : w1.heap.size ≤ g := hgl rfl
  have y0 := hL3.cell c0
  have y1 := hL3.cell c1
  have y2 := hL3.cell c2
  have y3 := hL3.cell c3
  have hRl : R < w1.heap.size := World.block_lt_of_cell? w1 ⟨R, 0, none⟩ rr0
  have xb : B ≠ R := by have := HRB.out; omega
  have xg : g ≠ R := by omega
  replace rf0 := hL3.frozen rr0 rf0
  replace rf1 := hL3.frozen rr1 rf1
  replace rf2 := hL3.frozen rr2 rf2
  replace rf3 := hL3.frozen rr3 rf3
  replace rf4 := hL3.frozen rr4 rf4
  replace rr0 := hL3.cell rr0
  replace rr1 := hL3.cell rr1
  replace rr2 := hL3.cell rr2
  replace rr3 := hL3.cell rr3
  replace rr4 := hL3.cell rr4
  have HL3 := hid (HL.out.trans hL3)
  have y4 : w3.cell? ⟨g, 0, none⟩ = some (.int .i64 a) := d0
  have y5 : w3.cell? ⟨g, 1, none⟩ = some (.int .i64 b) := d1
  have y6 : w3.cell? ⟨g, 2, none⟩ = some (.int .i64 c) := d2
  have y7 : w3.cell? ⟨g, 3, none⟩ = some (.int .i64 d) := d3
  have TK := hid (show (0 : Nat) = 0 from rfl)
  clear ho hm hL3 hcs hgl d0 d1 d2 d3 c0 c1 c2 c3 hRl hgl2
  simp only [List.length_singleton]
  have lw1 : IntKind.i64.wrap ((1 : Int) - 1) = 0 := by decide
  have lw2 : (0 : Int) < 1 := by decide
  have lw3 : (0 : Int) ≤ 0 := by decide
  have lw4 : (0 : Int).toNat = 0 := by decide
  have lw5 : IntKind.i64.wrap 0 = 0 := by decide
  go_wp2_with fail
  go_region_held3 (fun w' => w'.cell? ⟨B, 0, none⟩ = some (.int .i64 a) ∧ w'.cell? ⟨B, 1, none⟩ = some (.int .i64 b) ∧ w'.cell? ⟨B, 2, none⟩ = some (.int .i64 c) ∧ w'.cell? ⟨B, 3, none⟩ = some (.int .i64 d) ∧ w'.cell? ⟨g, 0, none⟩ = some (.int .i64 a) ∧ w'.cell? ⟨g, 1, none⟩ = some (.int .i64 b) ∧ w'.cell? ⟨g, 2, none⟩ = some (.int .i64 c) ∧ w'.cell? ⟨g, 3, none⟩ = some (.int .i64 d)) (first | with_reducible exact ⟨y0, y1, y2, y3, y4, y5, y6, y7⟩ | with_reducible exact ⟨z0, z1, z2, z3, z4, z5, z6, z7⟩ | with_reducible exact ⟨u0, u1, u2, u3, u4, u5, u6, u7⟩ | with_reducible exact ⟨setP_cell _ _ _ _ _ (xb) u0, setP_cell _ _ _ _ _ (xb) u1, setP_cell _ _ _ _ _ (xb) u2, setP_cell _ _ _ _ _ (xb) u3, setP_cell _ _ _ _ _ (xg) u4, setP_cell _ _ _ _ _ (xg) u5, setP_cell _ _ _ _ _ (xg) u6, setP_cell _ _ _ _ _ (xg) u7⟩ | go_keep) (first | (go_at_call 56; first | (have hh := TK; clear hh; with_reducible refine (HSO.out w3.drew).mono ?_; rintro e w6 ⟨rfl, hL6⟩; have hL6' := (Later.drew w3).trans hL6; have z0 := hL6'.cell y0; have z1 := hL6'.cell y1; have z2 := hL6'.cell y2; have z3 := hL6'.cell y3; have z4 := hL6'.cell y4; have z5 := hL6'.cell y5; have z6 := hL6'.cell y6; have z7 := hL6'.cell y7; have H6 := hid hL6'; have m0 := hL6'.cell rr0; have m1 := hL6'.cell rr1; have m2 := hL6'.cell rr2; have m3 := hL6'.cell rr3; have m4 := hL6'.cell rr4; have h0 := hL6'.frozen rr0 rf0; have h1 := hL6'.frozen rr1 rf1; have h2 := hL6'.frozen rr2 rf2; have h3 := hL6'.frozen rr3 rf3; have h4 := hL6'.frozen rr4 rf4; clear hL6 hL6' TK) | (with_reducible refine (HSO.out w6).mono ?_; rintro e w7 ⟨rfl, hL7⟩; have hL7' := H6.out.trans hL7; have u0 := hL7'.cell y0; have u1 := hL7'.cell y1; have u2 := hL7'.cell y2; have u3 := hL7'.cell y3; have u4 := hL7'.cell y4; have u5 := hL7'.cell y5; have u6 := hL7'.cell y6; have u7 := hL7'.cell y7; have n0 := hL7'.cell rr0; have n1 := hL7'.cell rr1; have n2 := hL7'.cell rr2; have n3 := hL7'.cell rr3; have n4 := hL7'.cell rr4; have k0 := hL7'.frozen rr0 rf0; have k1 := hL7'.frozen rr1 rf1; have k2 := hL7'.frozen rr2 rf2; have k3 := hL7'.frozen rr3 rf3; have k4 := hL7'.frozen rr4 rf4; have H7 := hid hL7'; clear hL7 hL7')) | (go_at_call 85; first | (have hh := TK; clear hh; with_reducible refine (HSC.out w3.drew).mono ?_; rintro e w6 ⟨rfl, hL6⟩; have hL6' := (Later.drew w3).trans hL6; have z0 := hL6'.cell y0; have z1 := hL6'.cell y1; have z2 := hL6'.cell y2; have z3 := hL6'.cell y3; have z4 := hL6'.cell y4; have z5 := hL6'.cell y5; have z6 := hL6'.cell y6; have z7 := hL6'.cell y7; have H6 := hid hL6'; have m0 := hL6'.cell rr0; have m1 := hL6'.cell rr1; have m2 := hL6'.cell rr2; have m3 := hL6'.cell rr3; have m4 := hL6'.cell rr4; have h0 := hL6'.frozen rr0 rf0; have h1 := hL6'.frozen rr1 rf1; have h2 := hL6'.frozen rr2 rf2; have h3 := hL6'.frozen rr3 rf3; have h4 := hL6'.frozen rr4 rf4; clear hL6 hL6' TK) | (with_reducible refine (HSC.out w6).mono ?_; rintro e w7 ⟨rfl, hL7⟩; have hL7' := H6.out.trans hL7; have u0 := hL7'.cell y0; have u1 := hL7'.cell y1; have u2 := hL7'.cell y2; have u3 := hL7'.cell y3; have u4 := hL7'.cell y4; have u5 := hL7'.cell y5; have u6 := hL7'.cell y6; have u7 := hL7'.cell y7; have n0 := hL7'.cell rr0; have n1 := hL7'.cell rr1; have n2 := hL7'.cell rr2; have n3 := hL7'.cell rr3; have n4 := hL7'.cell rr4; have k0 := hL7'.frozen rr0 rf0; have k1 := hL7'.frozen rr1 rf1; have k2 := hL7'.frozen rr2 rf2; have k3 := hL7'.frozen rr3 rf3; have k4 := hL7'.frozen rr4 rf4; have H7 := hid hL7'; clear hL7 hL7')))
  all_goals
    have HL8 := hid (setP_later (HL3.out.trans H7.out) (show w.heap.size ≤ R by have := HRB.out; have := HBW.out; omega) (.int .i64 a) (.int .i64 b) (.int .i64 c) (.int .i64 d) (.int .i64 G))
    have HE := hid (show QPack (((((w7.setCell ⟨R, 0, none⟩ (.int .i64 a)).setCell ⟨R, 1, none⟩ (.int .i64 b)).setCell ⟨R, 2, none⟩ (.int .i64 c)).setCell ⟨R, 3, none⟩ (.int .i64 d)).setCell ⟨R, 4, none⟩ (.int .i64 G)) R a b c d G from setP_all n0 n1 n2 n3 n4 a b c d G)
    clear y0 y1 y2 y3 y4 y5 y6 y7 z0 z1 z2 z3 z4 z5 z6 z7 u0 u1 u2 u3 u4 u5 u6 u7 n0 n1 n2 n3 n4 k0 k1 k2 k3 k4 m0 m1 m2 m3 m4 h0 h1 h2 h3 h4 lw1 lw2 lw3 lw4
    generalize (((((w7.setCell ⟨R, 0, none⟩ (.int .i64 a)).setCell ⟨R, 1, none⟩ (.int .i64 b)).setCell ⟨R, 2, none⟩ (.int .i64 c)).setCell ⟨R, 3, none⟩ (.int .i64 d)).setCell ⟨R, 4, none⟩ (.int .i64 G)) = w8 at HE HL8 ⊢
    obtain ⟨e0, e1, e2, e3, e4⟩ := HE.out
    go_wp2_with fail
    refine bodyPost_ret (v := .agg #[.int .i64 a, .int .i64 b, .int .i64 c, .int .i64 d, .int .i64 G]) ?_ rfl ⟨rfl, HL8.out⟩
    rw [results_cellQ rfl]
    go_simp
end Go.Proofs.Ytoaopmafokoaoab
