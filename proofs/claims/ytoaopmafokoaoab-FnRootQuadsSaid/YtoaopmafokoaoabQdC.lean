/- Four curvatures: the swap down, roots (the program). -/
import Derived.Test.YtoaopmafokoaoabQdAB
import Derived.Laws.StructEq
import Derived.ChangeKeysEq
namespace Go.Proofs.Ytoaopmafokoaoab
open Go.RowKit

/-- behind the swap down; a root as it is -/
def lowQ (zs : List Int) : List Int := if lastQ zs = true then zs else nextQ zs
theorem lowQ_last {zs : List Int} (h : lastQ zs = true) : lowQ zs = zs := if_pos h
theorem lowQ_next {zs : List Int} (h : lastQ zs = false) : lowQ zs = nextQ zs := if_neg (by rw [h]; simp)
/-- the numbers behind a swap bear sums, too -/
theorem QD.md2 {a b c d : Int} (h : QD a b c d) {p q r s : Int} (he : swL [a, b, c, d] (gIx [a, b, c, d]) = [p, q, r, s]) : Md p q r s := by
  have hg := gIx_lt ((apB_iff a b c d).2 h)
  have hb := swN_bd ((apB_iff a b c d).2 h) _ hg
  obtain ⟨⟨a1, a2⟩, ⟨b1, b2⟩, ⟨c1, c2⟩, ⟨d1, d2⟩, _, _⟩ := h
  generalize gIx [a, b, c, d] = g at *
  generalize hn : swN [a, b, c, d] g = n at *
  have e : swL [a, b, c, d] g = [a, b, c, d].set g n := by unfold swL; rw [hn]
  rw [e] at he
  have h4 : g = 0 ∨ g = 1 ∨ g = 2 ∨ g = 3 := by omega
  rcases h4 with rfl | rfl | rfl | rfl <;> simp at he <;> obtain ⟨rfl, rfl, rfl, rfl⟩ := he <;> exact ⟨by omega, by omega, by omega, by omega, by omega, by omega, by omega, by omega⟩
set_option maxRecDepth 20000 in
set_option maxHeartbeats 4000000 in
theorem lowered_any (a b c d : Int) (w : World) (hq : QD a b c d) :
    Calls Try.prog 100 #[.agg #[.int .i64 a, .int .i64 b, .int .i64 c, .int .i64 d]] w fun e w' => QuadRes w (lowQ [a, b, c, d]) e w' := by
  have hA := Later.alloc w (.cells #[.int .i64 a, .int .i64 b, .int .i64 c, .int .i64 d] 62)
  have hA2 := Later.alloc (w.alloc (.cells #[.int .i64 a, .int .i64 b, .int .i64 c, .int .i64 d] 62)) (.cells #[.int .i64 0, .int .i64 0, .int .i64 0, .int .i64 0] 62)
  have HB := hid ((QBox.new w a b c d).later hA2)
  have hR := QBox.new (w.alloc (.cells #[.int .i64 a, .int .i64 b, .int .i64 c, .int .i64 d] 62)) 0 0 0 0
  rw [show (w.alloc (.cells #[.int .i64 a, .int .i64 b, .int .i64 c, .int .i64 d] 62)).heap.size = w.heap.size + 1 by simp] at hR
  have HR := hid hR
  have HL := hid (hA.trans hA2)
  have HM := hid hq.md
  have hlen : (swL [a, b, c, d] (gIx [a, b, c, d])).length = 4 := swL_len _ _
  obtain ⟨p, q, r, s, hsw⟩ := len4 hlen
  have HM2 := hid (hq.md2 hsw)
  have HG := hid (gIx_lt ((apB_iff a b c d).2 hq))
  have hsum := swL_sum (zs := [a, b, c, d]) (gIx [a, b, c, d]) (gIx_lt ((apB_iff a b c d).2 hq))
  rw [hsw, sum4, sum4] at hsum
  have HLST := hid (show lastQ [a, b, c, d] = decide (a + b + c + d ≤ p + q + r + s) by
    unfold lastQ
    by_cases h1 : [a, b, c, d].getD (gIx [a, b, c, d]) 0 ≤ swN [a, b, c, d] (gIx [a, b, c, d])
    · rw [decide_eq_true h1, decide_eq_true (by omega)]
    · rw [decide_eq_false h1, decide_eq_false (by omega)])
  have HNX := hid (show nextQ [a, b, c, d] = [p, q, r, s] from hsw)
  obtain ⟨g, hg⟩ : ∃ g, gIx [a, b, c, d] = g := ⟨_, rfl⟩
  have HIX := hid (fun (w0 : World) => indexOfGreatest_as a b c d g w0 hg)
  rw [hg] at HG hsw
  have HSP := hid (fun (w0 : World) => show Calls Try.prog 62 #[.agg #[.int .i64 a, .int .i64 b, .int .i64 c, .int .i64 d], .int .i64 g] w0 fun e w' => e = .returned (.agg #[.int .i64 p, .int .i64 q, .int .i64 r, .int .i64 s]) ∧ Later w0 w' from (swapped_any a b c d g w0 HG.out HM.out).mono (fun e w' hh => by
    obtain ⟨p', q', r', s', h1, h2, h3⟩ := hh
    rw [hsw] at h1
    simp only [List.cons.injEq, and_true] at h1
    obtain ⟨rfl, rfl, rfl, rfl⟩ := h1
    exact ⟨h2, h3⟩))
  obtain ⟨S, hS⟩ : ∃ S, a + b + c + d = S := ⟨_, rfl⟩
  obtain ⟨S2, hS2⟩ : ∃ S2, p + q + r + s = S2 := ⟨_, rfl⟩
  have HS1 := hid (fun (w0 : World) => sumS_as a b c d S w0 HM.out hS)
  have HS2 := hid (fun (w0 : World) => sumS_as p q r s S2 w0 HM2.out hS2)
  rw [hS, hS2] at HLST
  clear hA hA2 hR hq hlen hsum hg hsw hS hS2
  go_enter Try.func100, Try.ntmps100
  go_upto_region 1 with fail
  generalize (w.alloc (.cells #[.int .i64 a, .int .i64 b, .int .i64 c, .int .i64 d] 62)).alloc (.cells #[.int .i64 0, .int .i64 0, .int .i64 0, .int .i64 0] 62) = w1 at HB HR HL ⊢
  obtain ⟨B, hB⟩ : ∃ B, w.heap.size = B := ⟨_, rfl⟩
  have HBW := hid (show w.heap.size ≤ B by omega)
  rw [hB] at HB HR ⊢
  clear hB
  obtain ⟨c0, c1, c2, c3, f0, f1, f2, f3⟩ := HB.out
  go_region_held3 (fun w' => w'.cell? ⟨B, 0, none⟩ = some (.int .i64 a) ∧ w'.cell? ⟨B, 1, none⟩ = some (.int .i64 b) ∧ w'.cell? ⟨B, 2, none⟩ = some (.int .i64 c) ∧ w'.cell? ⟨B, 3, none⟩ = some (.int .i64 d)) (first | with_reducible exact ⟨c0, c1, c2, c3⟩ | with_reducible exact ⟨d0, d1, d2, d3⟩ | with_reducible exact ⟨e0, e1, e2, e3⟩ | with_reducible exact ⟨setQ_cell _ _ _ _ (by assumption) e0, setQ_cell _ _ _ _ (by assumption) e1, setQ_cell _ _ _ _ (by assumption) e2, setQ_cell _ _ _ _ (by assumption) e3⟩ | with_reducible exact ⟨setQ_cell _ _ _ _ (by assumption) ((Later.alloc _ _).cell e0), setQ_cell _ _ _ _ (by assumption) ((Later.alloc _ _).cell e1), setQ_cell _ _ _ _ (by assumption) ((Later.alloc _ _).cell e2), setQ_cell _ _ _ _ (by assumption) ((Later.alloc _ _).cell e3)⟩ | go_keep) (first | (go_at_call 54; first | (refine (HIX.out w1.drew).mono ?_; rintro e w3 ⟨rfl, hL3⟩; have hL3' := (Later.drew w1).trans hL3; have d0 := hL3'.cell c0; have d1 := hL3'.cell c1; have d2 := hL3'.cell c2; have d3 := hL3'.cell c3; have H3 := hid hL3'; have x1 : B ≠ w1.heap.size := (by have := HB.out.lt; omega); have x3 : B ≠ w3.heap.size := (by have := HB.out.lt; have := H3.out.size; omega); have HN := hid (True.intro); clear hL3 hL3') | (refine (HIX.out (w1.drew.alloc (.cells #[.int .i64 0, .int .i64 0, .int .i64 0, .int .i64 0] 62))).mono ?_; rintro e w3 ⟨rfl, hL3⟩; have hL3' := ((Later.drew w1).trans (Later.alloc w1.drew (.cells #[.int .i64 0, .int .i64 0, .int .i64 0, .int .i64 0] 62))).trans hL3; have d0 := hL3'.cell c0; have d1 := hL3'.cell c1; have d2 := hL3'.cell c2; have d3 := hL3'.cell c3; have HN := hid (show QBox w3 w1.heap.size 0 0 0 0 from (QBox.new w1.drew 0 0 0 0).later hL3); have H3 := hid hL3'; have x1 : B ≠ w1.heap.size := (by have := HB.out.lt; omega); have x3 : B ≠ w3.heap.size := (by have := HB.out.lt; have := H3.out.size; omega); clear hL3 hL3')) | (go_at_call 62; first | (have hh : QBox w3 w1.heap.size 0 0 0 0 := HN.out; refine (HSP.out w3).mono ?_; rintro e w4 ⟨rfl, hL4⟩; have HM4 := hid (hh.later hL4); have HL4 := hid (H3.out.trans hL4); have x4 : B ≠ w4.heap.size := (by have := HB.out.lt; have := HL4.out.size; omega); have e0 := HL4.out.cell c0; have e1 := HL4.out.cell c1; have e2 := HL4.out.cell c2; have e3 := HL4.out.cell c3; clear hL4 hh; obtain ⟨n0, n1, n2, n3, g0, g1, g2, g3⟩ := HM4.out) | (refine (HSP.out w3).mono ?_; rintro e w4 ⟨rfl, hL4⟩; have HL4 := hid (H3.out.trans hL4); have x4 : B ≠ w4.heap.size := (by have := HB.out.lt; have := HL4.out.size; omega); have e0 := HL4.out.cell c0; have e1 := HL4.out.cell c1; have e2 := HL4.out.cell c2; have e3 := HL4.out.cell c3; clear hL4) | (refine (HSP.out (w3.alloc (.cells #[.int .i64 0, .int .i64 0, .int .i64 0, .int .i64 0] 62))).mono ?_; rintro e w4 ⟨rfl, hL4⟩; have HM4 := hid ((QBox.new w3 0 0 0 0).later hL4); have HL4 := hid ((H3.out.trans (Later.alloc w3 (.cells #[.int .i64 0, .int .i64 0, .int .i64 0, .int .i64 0] 62))).trans hL4); have x4 : B ≠ w4.heap.size := (by have := HB.out.lt; have := HL4.out.size; omega); have e0 := HL4.out.cell c0; have e1 := HL4.out.cell c1; have e2 := HL4.out.cell c2; have e3 := HL4.out.cell c3; clear hL4; obtain ⟨n0, n1, n2, n3, g0, g1, g2, g3⟩ := HM4.out)))
  · have hW : Later w1 (w4.alloc (.cells #[.int .i64 p, .int .i64 q, .int .i64 r, .int .i64 s] 62)) := HL4.out.trans (Later.alloc _ _)
    have HX5 := hid (QBox.new w4 p q r s)
    have HB5 := hid (HB.out.later hW)
    have HR5 := hid (HR.out.later hW)
    have HL5 := hid (HL.out.trans hW)
    obtain ⟨X, hX⟩ : ∃ X, w4.heap.size = X := ⟨_, rfl⟩
    rw [hX] at HX5 ⊢
    generalize w4.alloc (.cells #[.int .i64 p, .int .i64 q, .int .i64 r, .int .i64 s] 62) = w5 at HX5 HB5 HR5 HL5 ⊢
    clear hW hX x4 d0 d1 d2 d3 e0 e1 e2 e3 x1 x3 HN
    clear c0 c1 c2 c3 f0 f1 f2 f3 HB HR HL HIX HSP H3 HL4
    obtain ⟨y0, y1, y2, y3, _, _, _, _⟩ := HX5.out
    obtain ⟨y4, y5, y6, y7, _, _, _, _⟩ := HB5.out
    have TK := hid (show (0 : Nat) = 0 from rfl)
    go_wp2_with fail
    go_region_held3 (fun w' => w'.cell? ⟨X, 0, none⟩ = some (.int .i64 p) ∧ w'.cell? ⟨X, 1, none⟩ = some (.int .i64 q) ∧ w'.cell? ⟨X, 2, none⟩ = some (.int .i64 r) ∧ w'.cell? ⟨X, 3, none⟩ = some (.int .i64 s) ∧ w'.cell? ⟨B, 0, none⟩ = some (.int .i64 a) ∧ w'.cell? ⟨B, 1, none⟩ = some (.int .i64 b) ∧ w'.cell? ⟨B, 2, none⟩ = some (.int .i64 c) ∧ w'.cell? ⟨B, 3, none⟩ = some (.int .i64 d)) (first | with_reducible exact ⟨y0, y1, y2, y3, y4, y5, y6, y7⟩ | with_reducible exact ⟨z0, z1, z2, z3, z4, z5, z6, z7⟩ | with_reducible exact ⟨u0, u1, u2, u3, u4, u5, u6, u7⟩ | go_keep) (first | (go_at_call 98; first | (have hh := TK; clear hh; first | (with_reducible refine (HS2.out w5.drew).mono ?_; rintro e w6 ⟨rfl, hL6⟩; have hL6' := (Later.drew w5).trans hL6; have z0 := hL6'.cell y0; have z1 := hL6'.cell y1; have z2 := hL6'.cell y2; have z3 := hL6'.cell y3; have z4 := hL6'.cell y4; have z5 := hL6'.cell y5; have z6 := hL6'.cell y6; have z7 := hL6'.cell y7; have H6 := hid hL6'; clear hL6 hL6' TK) | (with_reducible refine (HS1.out w5.drew).mono ?_; rintro e w6 ⟨rfl, hL6⟩; have hL6' := (Later.drew w5).trans hL6; have z0 := hL6'.cell y0; have z1 := hL6'.cell y1; have z2 := hL6'.cell y2; have z3 := hL6'.cell y3; have z4 := hL6'.cell y4; have z5 := hL6'.cell y5; have z6 := hL6'.cell y6; have z7 := hL6'.cell y7; have H6 := hid hL6'; clear hL6 hL6' TK)) | (with_reducible refine (HS2.out w6).mono ?_; rintro e w7 ⟨rfl, hL7⟩; have hL7' := H6.out.trans hL7; have u0 := hL7'.cell y0; have u1 := hL7'.cell y1; have u2 := hL7'.cell y2; have u3 := hL7'.cell y3; have u4 := hL7'.cell y4; have u5 := hL7'.cell y5; have u6 := hL7'.cell y6; have u7 := hL7'.cell y7; have H7 := hid hL7'; clear hL7 hL7') | (with_reducible refine (HS1.out w6).mono ?_; rintro e w7 ⟨rfl, hL7⟩; have hL7' := H6.out.trans hL7; have u0 := hL7'.cell y0; have u1 := hL7'.cell y1; have u2 := hL7'.cell y2; have u3 := hL7'.cell y3; have u4 := hL7'.cell y4; have u5 := hL7'.cell y5; have u6 := hL7'.cell y6; have u7 := hL7'.cell y7; have H7 := hid hL7'; clear hL7 hL7')))
    all_goals
      by_cases hle : S ≤ S2
      · have HLQ := hid (show lastQ [a, b, c, d] = true by rw [HLST.out, decide_eq_true hle])
        have HB8 := hid (HB5.out.later H7.out)
        have HR8 := hid (HR5.out.later H7.out)
        have HX8 := hid (HX5.out.later H7.out)
        have HL8 := hid (HL5.out.trans H7.out)
        clear y0 y1 y2 y3 y4 y5 y6 y7 z0 z1 z2 z3 z4 z5 z6 z7 u0 u1 u2 u3 u4 u5 u6 u7 H6 H7 HB5 HR5 HX5 HL5
        obtain ⟨c0, c1, c2, c3, _, _, _, _⟩ := HB8.out
        obtain ⟨d0, d1, d2, d3, f0, f1, f2, f3⟩ := HR8.out
        obtain ⟨e0, e1, e2, e3, _, _, _, _⟩ := HX8.out
        go_wp2_with fail
        have HR9 := hid (HR8.out.set a b c d)
        have HL9 := hid (setQ_later HL8.out (show w.heap.size ≤ B + 1 by have := HBW.out; omega) a b c d)
        clear c0 c1 c2 c3 d0 d1 d2 d3 e0 e1 e2 e3 f0 f1 f2 f3
        generalize ((((w7.setCell ⟨B + 1, 0, none⟩ (.int .i64 a)).setCell ⟨B + 1, 1, none⟩ (.int .i64 b)).setCell ⟨B + 1, 2, none⟩ (.int .i64 c)).setCell ⟨B + 1, 3, none⟩ (.int .i64 d)) = w8 at HR9 HL9 ⊢
        obtain ⟨d0, d1, d2, d3, _, _, _, _⟩ := HR9.out
        refine bodyPost_ret (v := .agg #[.int .i64 a, .int .i64 b, .int .i64 c, .int .i64 d]) ?_ rfl ⟨a, b, c, d, by first | exact lowQ_last HLQ.out | exact (lowQ_next HLQ.out).trans HNX.out, rfl, HL9.out⟩
        rw [results_cellQ rfl]
        go_simp
      · have HLQ := hid (show lastQ [a, b, c, d] = false by rw [HLST.out, decide_eq_false hle])
        have HB8 := hid (HB5.out.later H7.out)
        have HR8 := hid (HR5.out.later H7.out)
        have HX8 := hid (HX5.out.later H7.out)
        have HL8 := hid (HL5.out.trans H7.out)
        clear y0 y1 y2 y3 y4 y5 y6 y7 z0 z1 z2 z3 z4 z5 z6 z7 u0 u1 u2 u3 u4 u5 u6 u7 H6 H7 HB5 HR5 HX5 HL5
        obtain ⟨c0, c1, c2, c3, _, _, _, _⟩ := HB8.out
        obtain ⟨d0, d1, d2, d3, f0, f1, f2, f3⟩ := HR8.out
        obtain ⟨e0, e1, e2, e3, _, _, _, _⟩ := HX8.out
        go_wp2_with fail
        have HR9 := hid (HR8.out.set p q r s)
        have HL9 := hid (setQ_later HL8.out (show w.heap.size ≤ B + 1 by have := HBW.out; omega) p q r s)
        clear c0 c1 c2 c3 d0 d1 d2 d3 e0 e1 e2 e3 f0 f1 f2 f3
        generalize ((((w7.setCell ⟨B + 1, 0, none⟩ (.int .i64 p)).setCell ⟨B + 1, 1, none⟩ (.int .i64 q)).setCell ⟨B + 1, 2, none⟩ (.int .i64 r)).setCell ⟨B + 1, 3, none⟩ (.int .i64 s)) = w8 at HR9 HL9 ⊢
        obtain ⟨d0, d1, d2, d3, _, _, _, _⟩ := HR9.out
        refine bodyPost_ret (v := .agg #[.int .i64 p, .int .i64 q, .int .i64 r, .int .i64 s]) ?_ rfl ⟨p, q, r, s, by first | exact lowQ_last HLQ.out | exact (lowQ_next HLQ.out).trans HNX.out, rfl, HL9.out⟩
        rw [results_cellQ rfl]
        go_simp
  · have hw : w1.heap.size ≤ w3.heap.size := H3.out.size
    have hlt := HR.out.lt
    have HX5 := hid (HM4.out.set p q r s)
    have HB5 := hid ((HB.out.later HL4.out).keep (setQ_far w4 w3.heap.size B p q r s (by omega)))
    have HR5 := hid ((HR.out.later HL4.out).keep (setQ_far w4 w3.heap.size (B + 1) p q r s (by omega)))
    have HL5 := hid (setQ_later (HL.out.trans HL4.out) (show w.heap.size ≤ w3.heap.size by have := HL.out.size; omega) p q r s)
    clear hw hlt n0 n1 n2 n3 g0 g1 g2 g3 HM4 d0 d1 d2 d3 e0 e1 e2 e3 x1 x3
    obtain ⟨X, hX⟩ : ∃ X, w3.heap.size = X := ⟨_, rfl⟩
    rw [hX] at HX5 HB5 HR5 HL5 ⊢
    generalize ((((w4.setCell ⟨X, 0, none⟩ (.int .i64 p)).setCell ⟨X, 1, none⟩ (.int .i64 q)).setCell ⟨X, 2, none⟩ (.int .i64 r)).setCell ⟨X, 3, none⟩ (.int .i64 s)) = w5 at HX5 HB5 HR5 HL5 ⊢
    clear hX
    clear c0 c1 c2 c3 f0 f1 f2 f3 HB HR HL HIX HSP H3 HL4
    obtain ⟨y0, y1, y2, y3, _, _, _, _⟩ := HX5.out
    obtain ⟨y4, y5, y6, y7, _, _, _, _⟩ := HB5.out
    have TK := hid (show (0 : Nat) = 0 from rfl)
    go_wp2_with fail
    go_region_held3 (fun w' => w'.cell? ⟨X, 0, none⟩ = some (.int .i64 p) ∧ w'.cell? ⟨X, 1, none⟩ = some (.int .i64 q) ∧ w'.cell? ⟨X, 2, none⟩ = some (.int .i64 r) ∧ w'.cell? ⟨X, 3, none⟩ = some (.int .i64 s) ∧ w'.cell? ⟨B, 0, none⟩ = some (.int .i64 a) ∧ w'.cell? ⟨B, 1, none⟩ = some (.int .i64 b) ∧ w'.cell? ⟨B, 2, none⟩ = some (.int .i64 c) ∧ w'.cell? ⟨B, 3, none⟩ = some (.int .i64 d)) (first | with_reducible exact ⟨y0, y1, y2, y3, y4, y5, y6, y7⟩ | with_reducible exact ⟨z0, z1, z2, z3, z4, z5, z6, z7⟩ | with_reducible exact ⟨u0, u1, u2, u3, u4, u5, u6, u7⟩ | go_keep) (first | (go_at_call 98; first | (have hh := TK; clear hh; first | (with_reducible refine (HS2.out w5.drew).mono ?_; rintro e w6 ⟨rfl, hL6⟩; have hL6' := (Later.drew w5).trans hL6; have z0 := hL6'.cell y0; have z1 := hL6'.cell y1; have z2 := hL6'.cell y2; have z3 := hL6'.cell y3; have z4 := hL6'.cell y4; have z5 := hL6'.cell y5; have z6 := hL6'.cell y6; have z7 := hL6'.cell y7; have H6 := hid hL6'; clear hL6 hL6' TK) | (with_reducible refine (HS1.out w5.drew).mono ?_; rintro e w6 ⟨rfl, hL6⟩; have hL6' := (Later.drew w5).trans hL6; have z0 := hL6'.cell y0; have z1 := hL6'.cell y1; have z2 := hL6'.cell y2; have z3 := hL6'.cell y3; have z4 := hL6'.cell y4; have z5 := hL6'.cell y5; have z6 := hL6'.cell y6; have z7 := hL6'.cell y7; have H6 := hid hL6'; clear hL6 hL6' TK)) | (with_reducible refine (HS2.out w6).mono ?_; rintro e w7 ⟨rfl, hL7⟩; have hL7' := H6.out.trans hL7; have u0 := hL7'.cell y0; have u1 := hL7'.cell y1; have u2 := hL7'.cell y2; have u3 := hL7'.cell y3; have u4 := hL7'.cell y4; have u5 := hL7'.cell y5; have u6 := hL7'.cell y6; have u7 := hL7'.cell y7; have H7 := hid hL7'; clear hL7 hL7') | (with_reducible refine (HS1.out w6).mono ?_; rintro e w7 ⟨rfl, hL7⟩; have hL7' := H6.out.trans hL7; have u0 := hL7'.cell y0; have u1 := hL7'.cell y1; have u2 := hL7'.cell y2; have u3 := hL7'.cell y3; have u4 := hL7'.cell y4; have u5 := hL7'.cell y5; have u6 := hL7'.cell y6; have u7 := hL7'.cell y7; have H7 := hid hL7'; clear hL7 hL7')))
    all_goals
      by_cases hle : S ≤ S2
      · have HLQ := hid (show lastQ [a, b, c, d] = true by rw [HLST.out, decide_eq_true hle])
        have HB8 := hid (HB5.out.later H7.out)
        have HR8 := hid (HR5.out.later H7.out)
        have HX8 := hid (HX5.out.later H7.out)
        have HL8 := hid (HL5.out.trans H7.out)
        clear y0 y1 y2 y3 y4 y5 y6 y7 z0 z1 z2 z3 z4 z5 z6 z7 u0 u1 u2 u3 u4 u5 u6 u7 H6 H7 HB5 HR5 HX5 HL5
        obtain ⟨c0, c1, c2, c3, _, _, _, _⟩ := HB8.out
        obtain ⟨d0, d1, d2, d3, f0, f1, f2, f3⟩ := HR8.out
        obtain ⟨e0, e1, e2, e3, _, _, _, _⟩ := HX8.out
        go_wp2_with fail
        have HR9 := hid (HR8.out.set a b c d)
        have HL9 := hid (setQ_later HL8.out (show w.heap.size ≤ B + 1 by have := HBW.out; omega) a b c d)
        clear c0 c1 c2 c3 d0 d1 d2 d3 e0 e1 e2 e3 f0 f1 f2 f3
        generalize ((((w7.setCell ⟨B + 1, 0, none⟩ (.int .i64 a)).setCell ⟨B + 1, 1, none⟩ (.int .i64 b)).setCell ⟨B + 1, 2, none⟩ (.int .i64 c)).setCell ⟨B + 1, 3, none⟩ (.int .i64 d)) = w8 at HR9 HL9 ⊢
        obtain ⟨d0, d1, d2, d3, _, _, _, _⟩ := HR9.out
        refine bodyPost_ret (v := .agg #[.int .i64 a, .int .i64 b, .int .i64 c, .int .i64 d]) ?_ rfl ⟨a, b, c, d, by first | exact lowQ_last HLQ.out | exact (lowQ_next HLQ.out).trans HNX.out, rfl, HL9.out⟩
        rw [results_cellQ rfl]
        go_simp
      · have HLQ := hid (show lastQ [a, b, c, d] = false by rw [HLST.out, decide_eq_false hle])
        have HB8 := hid (HB5.out.later H7.out)
        have HR8 := hid (HR5.out.later H7.out)
        have HX8 := hid (HX5.out.later H7.out)
        have HL8 := hid (HL5.out.trans H7.out)
        clear y0 y1 y2 y3 y4 y5 y6 y7 z0 z1 z2 z3 z4 z5 z6 z7 u0 u1 u2 u3 u4 u5 u6 u7 H6 H7 HB5 HR5 HX5 HL5
        obtain ⟨c0, c1, c2, c3, _, _, _, _⟩ := HB8.out
        obtain ⟨d0, d1, d2, d3, f0, f1, f2, f3⟩ := HR8.out
        obtain ⟨e0, e1, e2, e3, _, _, _, _⟩ := HX8.out
        go_wp2_with fail
        have HR9 := hid (HR8.out.set p q r s)
        have HL9 := hid (setQ_later HL8.out (show w.heap.size ≤ B + 1 by have := HBW.out; omega) p q r s)
        clear c0 c1 c2 c3 d0 d1 d2 d3 e0 e1 e2 e3 f0 f1 f2 f3
        generalize ((((w7.setCell ⟨B + 1, 0, none⟩ (.int .i64 p)).setCell ⟨B + 1, 1, none⟩ (.int .i64 q)).setCell ⟨B + 1, 2, none⟩ (.int .i64 r)).setCell ⟨B + 1, 3, none⟩ (.int .i64 s)) = w8 at HR9 HL9 ⊢
        obtain ⟨d0, d1, d2, d3, _, _, _, _⟩ := HR9.out
        refine bodyPost_ret (v := .agg #[.int .i64 p, .int .i64 q, .int .i64 r, .int .i64 s]) ?_ rfl ⟨p, q, r, s, by first | exact lowQ_last HLQ.out | exact (lowQ_next HLQ.out).trans HNX.out, rfl, HL9.out⟩
        rw [results_cellQ rfl]
        go_simp
  · have hw : w1.heap.size ≤ w1.heap.size := Nat.le_refl _
    have hlt := HR.out.lt
    have HX5 := hid (HM4.out.set p q r s)
    have HB5 := hid ((HB.out.later HL4.out).keep (setQ_far w4 w1.heap.size B p q r s (by omega)))
    have HR5 := hid ((HR.out.later HL4.out).keep (setQ_far w4 w1.heap.size (B + 1) p q r s (by omega)))
    have HL5 := hid (setQ_later (HL.out.trans HL4.out) (show w.heap.size ≤ w1.heap.size by have := HL.out.size; omega) p q r s)
    clear hw hlt n0 n1 n2 n3 g0 g1 g2 g3 HM4 d0 d1 d2 d3 e0 e1 e2 e3 x1 x3
    obtain ⟨X, hX⟩ : ∃ X, w1.heap.size = X := ⟨_, rfl⟩
    rw [hX] at HX5 HB5 HR5 HL5 ⊢
    generalize ((((w4.setCell ⟨X, 0, none⟩ (.int .i64 p)).setCell ⟨X, 1, none⟩ (.int .i64 q)).setCell ⟨X, 2, none⟩ (.int .i64 r)).setCell ⟨X, 3, none⟩ (.int .i64 s)) = w5 at HX5 HB5 HR5 HL5 ⊢
    clear hX
    clear c0 c1 c2 c3 f0 f1 f2 f3 HB HR HL HIX HSP H3 HL4
    obtain ⟨y0, y1, y2, y3, _, _, _, _⟩ := HX5.out
    obtain ⟨y4, y5, y6, y7, _, _, _, _⟩ := HB5.out
    have TK := hid (show (0 : Nat) = 0 from rfl)
    go_wp2_with fail
    go_region_held3 (fun w' => w'.cell? ⟨X, 0, none⟩ = some (.int .i64 p) ∧ w'.cell? ⟨X, 1, none⟩ = some (.int .i64 q) ∧ w'.cell? ⟨X, 2, none⟩ = some (.int .i64 r) ∧ w'.cell? ⟨X, 3, none⟩ = some (.int .i64 s) ∧ w'.cell? ⟨B, 0, none⟩ = some (.int .i64 a) ∧ w'.cell? ⟨B, 1, none⟩ = some (.int .i64 b) ∧ w'.cell? ⟨B, 2, none⟩ = some (.int .i64 c) ∧ w'.cell? ⟨B, 3, none⟩ = some (.int .i64 d)) (first | with_reducible exact ⟨y0, y1, y2, y3, y4, y5, y6, y7⟩ | with_reducible exact ⟨z0, z1, z2, z3, z4, z5, z6, z7⟩ | with_reducible exact ⟨u0, u1, u2, u3, u4, u5, u6, u7⟩ | go_keep) (first | (go_at_call 98; first | (have hh := TK; clear hh; first | (with_reducible refine (HS2.out w5.drew).mono ?_; rintro e w6 ⟨rfl, hL6⟩; have hL6' := (Later.drew w5).trans hL6; have z0 := hL6'.cell y0; have z1 := hL6'.cell y1; have z2 := hL6'.cell y2; have z3 := hL6'.cell y3; have z4 := hL6'.cell y4; have z5 := hL6'.cell y5; have z6 := hL6'.cell y6; have z7 := hL6'.cell y7; have H6 := hid hL6'; clear hL6 hL6' TK) | (with_reducible refine (HS1.out w5.drew).mono ?_; rintro e w6 ⟨rfl, hL6⟩; have hL6' := (Later.drew w5).trans hL6; have z0 := hL6'.cell y0; have z1 := hL6'.cell y1; have z2 := hL6'.cell y2; have z3 := hL6'.cell y3; have z4 := hL6'.cell y4; have z5 := hL6'.cell y5; have z6 := hL6'.cell y6; have z7 := hL6'.cell y7; have H6 := hid hL6'; clear hL6 hL6' TK)) | (with_reducible refine (HS2.out w6).mono ?_; rintro e w7 ⟨rfl, hL7⟩; have hL7' := H6.out.trans hL7; have u0 := hL7'.cell y0; have u1 := hL7'.cell y1; have u2 := hL7'.cell y2; have u3 := hL7'.cell y3; have u4 := hL7'.cell y4; have u5 := hL7'.cell y5; have u6 := hL7'.cell y6; have u7 := hL7'.cell y7; have H7 := hid hL7'; clear hL7 hL7') | (with_reducible refine (HS1.out w6).mono ?_; rintro e w7 ⟨rfl, hL7⟩; have hL7' := H6.out.trans hL7; have u0 := hL7'.cell y0; have u1 := hL7'.cell y1; have u2 := hL7'.cell y2; have u3 := hL7'.cell y3; have u4 := hL7'.cell y4; have u5 := hL7'.cell y5; have u6 := hL7'.cell y6; have u7 := hL7'.cell y7; have H7 := hid hL7'; clear hL7 hL7')))
    all_goals
      by_cases hle : S ≤ S2
      · have HLQ := hid (show lastQ [a, b, c, d] = true by rw [HLST.out, decide_eq_true hle])
        have HB8 := hid (HB5.out.later H7.out)
        have HR8 := hid (HR5.out.later H7.out)
        have HX8 := hid (HX5.out.later H7.out)
        have HL8 := hid (HL5.out.trans H7.out)
        clear y0 y1 y2 y3 y4 y5 y6 y7 z0 z1 z2 z3 z4 z5 z6 z7 u0 u1 u2 u3 u4 u5 u6 u7 H6 H7 HB5 HR5 HX5 HL5
        obtain ⟨c0, c1, c2, c3, _, _, _, _⟩ := HB8.out
        obtain ⟨d0, d1, d2, d3, f0, f1, f2, f3⟩ := HR8.out
        obtain ⟨e0, e1, e2, e3, _, _, _, _⟩ := HX8.out
        go_wp2_with fail
        have HR9 := hid (HR8.out.set a b c d)
        have HL9 := hid (setQ_later HL8.out (show w.heap.size ≤ B + 1 by have := HBW.out; omega) a b c d)
        clear c0 c1 c2 c3 d0 d1 d2 d3 e0 e1 e2 e3 f0 f1 f2 f3
        generalize ((((w7.setCell ⟨B + 1, 0, none⟩ (.int .i64 a)).setCell ⟨B + 1, 1, none⟩ (.int .i64 b)).setCell ⟨B + 1, 2, none⟩ (.int .i64 c)).setCell ⟨B + 1, 3, none⟩ (.int .i64 d)) = w8 at HR9 HL9 ⊢
        obtain ⟨d0, d1, d2, d3, _, _, _, _⟩ := HR9.out
        refine bodyPost_ret (v := .agg #[.int .i64 a, .int .i64 b, .int .i64 c, .int .i64 d]) ?_ rfl ⟨a, b, c, d, by first | exact lowQ_last HLQ.out | exact (lowQ_next HLQ.out).trans HNX.out, rfl, HL9.out⟩
        rw [results_cellQ rfl]
        go_simp
      · have HLQ := hid (show lastQ [a, b, c, d] = false by rw [HLST.out, decide_eq_false hle])
        have HB8 := hid (HB5.out.later H7.out)
        have HR8 := hid (HR5.out.later H7.out)
        have HX8 := hid (HX5.out.later H7.out)
        have HL8 := hid (HL5.out.trans H7.out)
        clear y0 y1 y2 y3 y4 y5 y6 y7 z0 z1 z2 z3 z4 z5 z6 z7 u0 u1 u2 u3 u4 u5 u6 u7 H6 H7 HB5 HR5 HX5 HL5
        obtain ⟨c0, c1, c2, c3, _, _, _, _⟩ := HB8.out
        obtain ⟨d0, d1, d2, d3, f0, f1, f2, f3⟩ := HR8.out
        obtain ⟨e0, e1, e2, e3, _, _, _, _⟩ := HX8.out
        go_wp2_with fail
        have HR9 := hid (HR8.out.set p q r s)
        have HL9 := hid (setQ_later HL8.out (show w.heap.size ≤ B + 1 by have := HBW.out; omega) p q r s)
        clear c0 c1 c2 c3 d0 d1 d2 d3 e0 e1 e2 e3 f0 f1 f2 f3
        generalize ((((w7.setCell ⟨B + 1, 0, none⟩ (.int .i64 p)).setCell ⟨B + 1, 1, none⟩ (.int .i64 q)).setCell ⟨B + 1, 2, none⟩ (.int .i64 r)).setCell ⟨B + 1, 3, none⟩ (.int .i64 s)) = w8 at HR9 HL9 ⊢
        obtain ⟨d0, d1, d2, d3, _, _, _, _⟩ := HR9.out
        refine bodyPost_ret (v := .agg #[.int .i64 p, .int .i64 q, .int .i64 r, .int .i64 s]) ?_ rfl ⟨p, q, r, s, by first | exact lowQ_last HLQ.out | exact (lowQ_next HLQ.out).trans HNX.out, rfl, HL9.out⟩
        rw [results_cellQ rfl]
        go_simp
end Go.Proofs.Ytoaopmafokoaoab
