/- The walk of the law FnExactReflectCircle, over whatever contracts the model's and the program's functions have. -/
import Derived.Test.YtljikcajfmnnmaaCiL
import Derived.Deep.RegionHeld3
namespace Go.Proofs.Ytljikcajfmnnmaa
open Go.RowKit

/-- a box of zeros that may be written -/
def BoxZ (w : World) (B : Nat) : Prop := CBox w B 0 0 0 0 ∧ w.frozen? ⟨B, 0, none⟩ = false ∧ w.frozen? ⟨B, 1, none⟩ = false ∧ w.frozen? ⟨B, 2, none⟩ = false ∧ w.frozen? ⟨B, 3, none⟩ = false
theorem BoxZ.later {w w' : World} {B : Nat} (h : BoxZ w B) (k : Later w w') : BoxZ w' B :=
  ⟨h.1.later k, k.frozen h.1.1 h.2.1, k.frozen h.1.2.1 h.2.2.1, k.frozen h.1.2.2.1 h.2.2.2.1, k.frozen h.1.2.2.2 h.2.2.2.2⟩
theorem cell_set4 {w : World} {B b j : Nat} {v p q r s : Value} (hc : w.cell? ⟨b, j, none⟩ = some v) (h : b ≠ B) :
    ((((w.setCell ⟨B, 0, none⟩ p).setCell ⟨B, 1, none⟩ q).setCell ⟨B, 2, none⟩ r).setCell ⟨B, 3, none⟩ s).cell? ⟨b, j, none⟩ = some v := cell_keep hc (set4_far w B 0 b p q r s h)
theorem BoxZ.alloc_later {w w' : World} (k : Later (w.alloc (.cells #[.int .i64 0, .int .i64 0, .int .i64 0, .int .i64 0] 25)) w') : BoxZ w' w.heap.size :=
  BoxZ.later ⟨CBox.new w 0 0 0 0 _, by simp [go_sem], by simp [go_sem], by simp [go_sem], by simp [go_sem]⟩ k

theorem BoxZ.drewAlloc {w w' : World} (k : Later (w.drew.alloc (.cells #[.int .i64 0, .int .i64 0, .int .i64 0, .int .i64 0] 25)) w') : BoxZ w' w.heap.size := by
  have h := BoxZ.alloc_later k
  exact h

set_option maxRecDepth 20000 in
set_option maxHeartbeats 2000000 in
theorem lawReflectCircle_gen (a b x y p q r s : Int) (o : Option Ci4)
    (hS : ∀ (w : World), Calls Try.prog 24 #[.agg #[.int .i64 a, .int .i64 b, .int .i64 x, .int .i64 y], .agg #[.int .i64 p, .int .i64 q, .int .i64 r, .int .i64 s]] w fun e w' => CiAns w o e w')
    (hI : ∀ (w : World), Calls Try.prog 25 #[.agg #[.int .i64 a, .int .i64 b, .int .i64 x, .int .i64 y], .agg #[.int .i64 p, .int .i64 q, .int .i64 r, .int .i64 s]] w fun e w' => CiAns w o e w')
    (w : World) :
    Calls Try.prog 9 #[.agg #[.int .i64 a, .int .i64 b, .int .i64 x, .int .i64 y], .agg #[.int .i64 p, .int .i64 q, .int .i64 r, .int .i64 s]] w fun e w' => e = .returned (.bool true) ∧ Later w w' := by
  have HS := hid hS
  have HI := hid hI
  clear hS hI
  obtain ⟨R, hR⟩ : ∃ R, o.getD c00 = R := ⟨_, rfl⟩
  obtain ⟨ra, rb, rx, ry⟩ := R
  unfold CiAns at HS HI
  rw [hR] at HS HI
  clear hR
  obtain ⟨ob, hob⟩ : ∃ ob, o.isSome = ob := ⟨_, rfl⟩
  rw [hob] at HS HI
  clear hob
  have hne : (ob != ob) = false := by simp
  have HTA := hid (fun w0 => toCircle_any a b x y w0)
  have HTP := hid (fun w0 => toCircle_any p q r s w0)
  have KT := hid (fun (e0 e1 e2 e3 : Int) (W : World) (Q : Ending → World → Prop) (h : ∀ W', Later W W' → Q (.returned (.agg #[.int .i64 e0, .int .i64 e1, .int .i64 e2, .int .i64 e3])) W') => show Calls Try.prog 11 #[.agg #[.int .i64 e0, .int .i64 e1, .int .i64 e2, .int .i64 e3]] W Q from (toCircle_any e0 e1 e2 e3 W).mono (by rintro e W' ⟨rfl, hL⟩; exact h W' hL))
  have KS := hid (fun (W : World) (Q : Ending → World → Prop) (h : ∀ W', Later W W' → Q (.returned (.tuple #[.agg #[.int .i64 ra, .int .i64 rb, .int .i64 rx, .int .i64 ry], .bool ob])) W') => show Calls Try.prog 24 #[.agg #[.int .i64 a, .int .i64 b, .int .i64 x, .int .i64 y], .agg #[.int .i64 p, .int .i64 q, .int .i64 r, .int .i64 s]] W Q from (HS.out W).mono (by rintro e W' ⟨rfl, hL⟩; exact h W' hL))
  have KI := hid (fun (W : World) (Q : Ending → World → Prop) (h : ∀ W', Later W W' → Q (.returned (.tuple #[.agg #[.int .i64 ra, .int .i64 rb, .int .i64 rx, .int .i64 ry], .bool ob])) W') => show Calls Try.prog 25 #[.agg #[.int .i64 a, .int .i64 b, .int .i64 x, .int .i64 y], .agg #[.int .i64 p, .int .i64 q, .int .i64 r, .int .i64 s]] W Q from (HI.out W).mono (by rintro e W' ⟨rfl, hL⟩; exact h W' hL))
  clear HTA HTP HS HI
  have HL := hid ((Later.alloc w (.cells #[.int .i64 a, .int .i64 b, .int .i64 x, .int .i64 y] 23)).trans (Later.alloc _ (.cells #[.int .i64 p, .int .i64 q, .int .i64 r, .int .i64 s] 23)))
  have HC := hid ((CBox.new w a b x y 23).later (Later.alloc _ (.cells #[.int .i64 p, .int .i64 q, .int .i64 r, .int .i64 s] 23)))
  have HP : Hid (CBox ((w.alloc (.cells #[.int .i64 a, .int .i64 b, .int .i64 x, .int .i64 y] 23)).alloc (.cells #[.int .i64 p, .int .i64 q, .int .i64 r, .int .i64 s] 23)) (w.heap.size + 1) p q r s) := hid (by have := CBox.new (w.alloc (.cells #[.int .i64 a, .int .i64 b, .int .i64 x, .int .i64 y] 23)) p q r s 23; simpa using this)
  have HSZ : Hid (w.heap.size + 1 < ((w.alloc (.cells #[.int .i64 a, .int .i64 b, .int .i64 x, .int .i64 y] 23)).alloc (.cells #[.int .i64 p, .int .i64 q, .int .i64 r, .int .i64 s] 23)).heap.size) := hid (by simp)
  go_enter Try.func9, Try.ntmps9
  go_upto_region 1 with fail
  generalize (w.alloc (.cells #[.int .i64 a, .int .i64 b, .int .i64 x, .int .i64 y] 23)).alloc (.cells #[.int .i64 p, .int .i64 q, .int .i64 r, .int .i64 s] 23) = w1 at HL HC HP HSZ ⊢
  obtain ⟨c0, c1, c2, c3⟩ := HC.out
  obtain ⟨p0, p1, p2, p3⟩ := HP.out
  go_cut [5, 6] (fun s5 s6 wx => ∃ B : Nat, s5 = .pointer (some ⟨B, 0, none⟩) ∧ s6 = .bool ob ∧ CBox wx B ra rb rx ry ∧ Later w1 wx)
  case first =>
    obtain ⟨o0, o1, o2, o3⟩ := HC.out
    obtain ⟨o4, o5, o6, o7⟩ := HP.out
    obtain ⟨c0, c1, c2, c3⟩ := HC.out.later (Later.drew w1)
    obtain ⟨c4, c5, c6, c7⟩ := HP.out.later (Later.drew w1)
    have TK1 := hid True.intro
    have hsz := HSZ.out
    go_region_held3 (fun w' => w'.cell? ⟨w.heap.size, 0, none⟩ = some (.int .i64 a) ∧ w'.cell? ⟨w.heap.size, 1, none⟩ = some (.int .i64 b) ∧ w'.cell? ⟨w.heap.size, 2, none⟩ = some (.int .i64 x) ∧ w'.cell? ⟨w.heap.size, 3, none⟩ = some (.int .i64 y) ∧ w'.cell? ⟨w.heap.size + 1, 0, none⟩ = some (.int .i64 p) ∧ w'.cell? ⟨w.heap.size + 1, 1, none⟩ = some (.int .i64 q) ∧ w'.cell? ⟨w.heap.size + 1, 2, none⟩ = some (.int .i64 r) ∧ w'.cell? ⟨w.heap.size + 1, 3, none⟩ = some (.int .i64 s)) (first | with_reducible exact ⟨c0, c1, c2, c3, c4, c5, c6, c7⟩ | with_reducible exact ⟨d0, d1, d2, d3, d4, d5, d6, d7⟩ | with_reducible exact ⟨e0, e1, e2, e3, e4, e5, e6, e7⟩ | with_reducible exact ⟨g0, g1, g2, g3, g4, g5, g6, g7⟩ | with_reducible exact ⟨(Later.alloc _ _).cell c0, (Later.alloc _ _).cell c1, (Later.alloc _ _).cell c2, (Later.alloc _ _).cell c3, (Later.alloc _ _).cell c4, (Later.alloc _ _).cell c5, (Later.alloc _ _).cell c6, (Later.alloc _ _).cell c7⟩ | with_reducible exact ⟨(Later.alloc _ _).cell d0, (Later.alloc _ _).cell d1, (Later.alloc _ _).cell d2, (Later.alloc _ _).cell d3, (Later.alloc _ _).cell d4, (Later.alloc _ _).cell d5, (Later.alloc _ _).cell d6, (Later.alloc _ _).cell d7⟩ | with_reducible exact ⟨(Later.alloc _ _).cell e0, (Later.alloc _ _).cell e1, (Later.alloc _ _).cell e2, (Later.alloc _ _).cell e3, (Later.alloc _ _).cell e4, (Later.alloc _ _).cell e5, (Later.alloc _ _).cell e6, (Later.alloc _ _).cell e7⟩ | with_reducible exact ⟨(Later.alloc _ _).cell g0, (Later.alloc _ _).cell g1, (Later.alloc _ _).cell g2, (Later.alloc _ _).cell g3, (Later.alloc _ _).cell g4, (Later.alloc _ _).cell g5, (Later.alloc _ _).cell g6, (Later.alloc _ _).cell g7⟩ | with_reducible exact ⟨cell_set4 g0 (by omega), cell_set4 g1 (by omega), cell_set4 g2 (by omega), cell_set4 g3 (by omega), cell_set4 g4 (by omega), cell_set4 g5 (by omega), cell_set4 g6 (by omega), cell_set4 g7 (by omega)⟩ | go_keep) (first | (have hh := TK1; clear hh; go_at_call 11; refine KT.out _ _ _ _ _ _ (fun v1 hL => ?_); (first | (have HBX := hid (BoxZ.drewAlloc hL)) | skip); have H1L : Hid (Later w1 v1) := hid (by first | exact (Later.drew w1).trans hL | exact (Later.drew w1).trans ((Later.alloc _ _).trans hL)); have hs1 := H1L.out.size; obtain ⟨d0, d1, d2, d3⟩ := HC.out.later H1L.out; obtain ⟨d4, d5, d6, d7⟩ := HP.out.later H1L.out; clear hL TK1) | (go_at_call 11; refine KT.out _ _ _ _ _ _ (fun v2 hL => ?_); (first | (have HBX := hid (BoxZ.later HBX.out hL)) | (have hB0 := BoxZ.alloc_later hL; have HBX : Hid (BoxZ v2 v1.heap.size) := hid hB0; clear hB0) | skip); have H2L : Hid (Later w1 v2) := hid (by first | exact H1L.out.trans hL | exact H1L.out.trans ((Later.alloc _ _).trans hL)); have hs2 := H2L.out.size; obtain ⟨e0, e1, e2, e3⟩ := HC.out.later H2L.out; obtain ⟨e4, e5, e6, e7⟩ := HP.out.later H2L.out; clear hL) | (go_at_call 24; refine KS.out _ _ (fun v3 hL => ?_); (first | (have HBX := hid (BoxZ.later HBX.out hL)) | (have hB0 := BoxZ.alloc_later hL; have HBX : Hid (BoxZ v3 v2.heap.size) := hid hB0; clear hB0) | skip); have H3L : Hid (Later w1 v3) := hid (by first | exact H2L.out.trans hL | exact H2L.out.trans ((Later.alloc _ _).trans hL)); have hs3 := H3L.out.size; obtain ⟨g0, g1, g2, g3⟩ := HC.out.later H3L.out; obtain ⟨g4, g5, g6, g7⟩ := HP.out.later H3L.out; (first | (have hBX := HBX.out; obtain ⟨⟨z0, z1, z2, z3⟩, y0, y1, y2, y3⟩ := hBX) | skip); clear hL))
    all_goals
      go_wp2_with fail
      go_meet
      first
        | with_reducible exact ⟨_, rfl, rfl, CBox.new _ _ _ _ _ _, H3L.out.trans (Later.alloc _ _)⟩
        | exact ⟨_, rfl, rfl, CBox.set (show CBox _ _ 0 0 0 0 from ⟨z0, z1, z2, z3⟩) _ _ _ _, set4_later H3L.out (by have := HSZ.out; omega) 0 _ _ _ _⟩
  case rest =>
    clear c0 c1 c2 c3 p0 p1 p2 p3
    obtain ⟨w2, hw2⟩ : ∃ w2 : World, w2 = wc := ⟨wc, rfl⟩
    subst hw2
    obtain ⟨B5, rfl, rfl, hb5, hL5⟩ := hcut
    have HL2 := hid (HL.out.trans hL5)
    have HC2 := hid (HC.out.later hL5)
    have HP2 := hid (HP.out.later hL5)
    have HB5 := hid hb5
    have HSZ2 : Hid (w.heap.size + 1 < w2.heap.size) := hid (by have := HSZ.out; have := hL5.size; omega)
    clear hL5 hb5 HSZ HL HC HP KS
    have HSZ := HSZ2
    clear HSZ2
    go_upto_region 2 with fail
    go_cut [7, 8] (fun s5 s6 wx => ∃ B : Nat, s5 = .pointer (some ⟨B, 0, none⟩) ∧ s6 = .bool ob ∧ CBox wx B ra rb rx ry ∧ Later w2 wx)
    case first =>
      obtain ⟨o0, o1, o2, o3⟩ := HC2.out
      obtain ⟨o4, o5, o6, o7⟩ := HP2.out
      obtain ⟨c0, c1, c2, c3⟩ := HC2.out.later (Later.drew w2)
      obtain ⟨c4, c5, c6, c7⟩ := HP2.out.later (Later.drew w2)
      have TK1 := hid True.intro
      have hsz := HSZ.out
      go_region_held3 (fun w' => w'.cell? ⟨w.heap.size, 0, none⟩ = some (.int .i64 a) ∧ w'.cell? ⟨w.heap.size, 1, none⟩ = some (.int .i64 b) ∧ w'.cell? ⟨w.heap.size, 2, none⟩ = some (.int .i64 x) ∧ w'.cell? ⟨w.heap.size, 3, none⟩ = some (.int .i64 y) ∧ w'.cell? ⟨w.heap.size + 1, 0, none⟩ = some (.int .i64 p) ∧ w'.cell? ⟨w.heap.size + 1, 1, none⟩ = some (.int .i64 q) ∧ w'.cell? ⟨w.heap.size + 1, 2, none⟩ = some (.int .i64 r) ∧ w'.cell? ⟨w.heap.size + 1, 3, none⟩ = some (.int .i64 s)) (first | with_reducible exact ⟨c0, c1, c2, c3, c4, c5, c6, c7⟩ | with_reducible exact ⟨d0, d1, d2, d3, d4, d5, d6, d7⟩ | with_reducible exact ⟨e0, e1, e2, e3, e4, e5, e6, e7⟩ | with_reducible exact ⟨g0, g1, g2, g3, g4, g5, g6, g7⟩ | with_reducible exact ⟨(Later.alloc _ _).cell c0, (Later.alloc _ _).cell c1, (Later.alloc _ _).cell c2, (Later.alloc _ _).cell c3, (Later.alloc _ _).cell c4, (Later.alloc _ _).cell c5, (Later.alloc _ _).cell c6, (Later.alloc _ _).cell c7⟩ | with_reducible exact ⟨(Later.alloc _ _).cell d0, (Later.alloc _ _).cell d1, (Later.alloc _ _).cell d2, (Later.alloc _ _).cell d3, (Later.alloc _ _).cell d4, (Later.alloc _ _).cell d5, (Later.alloc _ _).cell d6, (Later.alloc _ _).cell d7⟩ | with_reducible exact ⟨(Later.alloc _ _).cell e0, (Later.alloc _ _).cell e1, (Later.alloc _ _).cell e2, (Later.alloc _ _).cell e3, (Later.alloc _ _).cell e4, (Later.alloc _ _).cell e5, (Later.alloc _ _).cell e6, (Later.alloc _ _).cell e7⟩ | with_reducible exact ⟨(Later.alloc _ _).cell g0, (Later.alloc _ _).cell g1, (Later.alloc _ _).cell g2, (Later.alloc _ _).cell g3, (Later.alloc _ _).cell g4, (Later.alloc _ _).cell g5, (Later.alloc _ _).cell g6, (Later.alloc _ _).cell g7⟩ | with_reducible exact ⟨cell_set4 g0 (by omega), cell_set4 g1 (by omega), cell_set4 g2 (by omega), cell_set4 g3 (by omega), cell_set4 g4 (by omega), cell_set4 g5 (by omega), cell_set4 g6 (by omega), cell_set4 g7 (by omega)⟩ | go_keep) (first | (have hh := TK1; clear hh; go_at_call 11; refine KT.out _ _ _ _ _ _ (fun v1 hL => ?_); (first | (have HBX := hid (BoxZ.drewAlloc hL)) | skip); have H1L : Hid (Later w2 v1) := hid (by first | exact (Later.drew w2).trans hL | exact (Later.drew w2).trans ((Later.alloc _ _).trans hL)); have hs1 := H1L.out.size; obtain ⟨d0, d1, d2, d3⟩ := HC2.out.later H1L.out; obtain ⟨d4, d5, d6, d7⟩ := HP2.out.later H1L.out; clear hL TK1) | (go_at_call 11; refine KT.out _ _ _ _ _ _ (fun v2 hL => ?_); (first | (have HBX := hid (BoxZ.later HBX.out hL)) | (have hB0 := BoxZ.alloc_later hL; have HBX : Hid (BoxZ v2 v1.heap.size) := hid hB0; clear hB0) | skip); have H2L : Hid (Later w2 v2) := hid (by first | exact H1L.out.trans hL | exact H1L.out.trans ((Later.alloc _ _).trans hL)); have hs2 := H2L.out.size; obtain ⟨e0, e1, e2, e3⟩ := HC2.out.later H2L.out; obtain ⟨e4, e5, e6, e7⟩ := HP2.out.later H2L.out; clear hL) | (go_at_call 25; refine KI.out _ _ (fun v3 hL => ?_); (first | (have HBX := hid (BoxZ.later HBX.out hL)) | (have hB0 := BoxZ.alloc_later hL; have HBX : Hid (BoxZ v3 v2.heap.size) := hid hB0; clear hB0) | skip); have H3L : Hid (Later w2 v3) := hid (by first | exact H2L.out.trans hL | exact H2L.out.trans ((Later.alloc _ _).trans hL)); have hs3 := H3L.out.size; obtain ⟨g0, g1, g2, g3⟩ := HC2.out.later H3L.out; obtain ⟨g4, g5, g6, g7⟩ := HP2.out.later H3L.out; (first | (have hBX := HBX.out; obtain ⟨⟨z0, z1, z2, z3⟩, y0, y1, y2, y3⟩ := hBX) | skip); clear hL))
      all_goals
        go_wp2_with fail
        go_meet
        first
          | with_reducible exact ⟨_, rfl, rfl, CBox.new _ _ _ _ _ _, H3L.out.trans (Later.alloc _ _)⟩
          | exact ⟨_, rfl, rfl, CBox.set (show CBox _ _ 0 0 0 0 from ⟨z0, z1, z2, z3⟩) _ _ _ _, set4_later H3L.out (by have := HSZ.out; omega) 0 _ _ _ _⟩
    case rest =>
      obtain ⟨w3, hw3⟩ : ∃ w3 : World, w3 = wc := ⟨wc, rfl⟩
      subst hw3
      obtain ⟨B7, rfl, rfl, hb7, hL7⟩ := hcut
      have HL3 := hid (HL2.out.trans hL7)
      obtain ⟨c0, c1, c2, c3⟩ := HB5.out.later hL7
      obtain ⟨p0, p1, p2, p3⟩ := hb7
      clear hL7 HL2 HC2 HP2 KI KT HSZ
      go_wp2_with fail
      refine (eqCircle_self ra rb rx ry _).mono ?_
      rintro e w4 ⟨rfl, hL4⟩
      have HL4 := hid (HL3.out.trans hL4)
      clear hL4
      go_wp2_with fail
      go_ret
      exact ⟨rfl, HL4.out⟩
end Go.Proofs.Ytljikcajfmnnmaa
