/- Right triples in the program: the parent of a pair. -/
import Derived.Test.YtdahhcigphhfdacRiP
namespace Go.Proofs.Ytdahhcigphhfdac
open Go.RowKit

def tree3 (s0 s1 s2 : St) : List Value := [.int .i64 s0.a, .int .i64 s0.b, .int .i64 s0.c, .int .i64 s0.d, .int .i64 s1.a, .int .i64 s1.b, .int .i64 s1.c, .int .i64 s1.d, .int .i64 s2.a, .int .i64 s2.b, .int .i64 s2.c, .int .i64 s2.d]
def parOf (s : St) (m n k : Int) : Value := .tuple #[.agg #[.int .i64 (bef s m n).1, .int .i64 (bef s m n).2], .int .i64 k, .bool true]
def parNone : Value := .tuple #[.agg #[.int .i64 0, .int .i64 0], .int .i64 0, .bool false]
def parV (s0 s1 s2 : St) (m n : Int) : Value :=
  if okB s0 m n = true then parOf s0 m n 0 else if okB s1 m n = true then parOf s1 m n 1 else if okB s2 m n = true then parOf s2 m n 2 else parNone
structure Good3 (s0 s1 s2 : St) : Prop where
  g0 : Small s0
  g1 : Small s1
  g2 : Small s2
  d0 : s0.det ≠ 0
  d1 : s1.det ≠ 0
  d2 : s2.det ≠ 0
/-- Two cells of a block of one's own. -/
structure Box2 (w : World) (b : Nat) (x y : Int) : Prop where
  c0 : w.cell? ⟨b, 0, none⟩ = some (.int .i64 x)
  c1 : w.cell? ⟨b, 1, none⟩ = some (.int .i64 y)
  f0 : w.frozen? ⟨b, 0, none⟩ = false
  f1 : w.frozen? ⟨b, 1, none⟩ = false
theorem Box2.new (w : World) (x y : Int) (ty : TypeId) : Box2 (w.alloc (.cells #[.int .i64 x, .int .i64 y] ty)) w.heap.size x y :=
  ⟨by simp [go_sem], by simp [go_sem], by simp [go_sem], by simp [go_sem]⟩
theorem Box2.later {w w' : World} {b : Nat} {x y : Int} (h : Box2 w b x y) (k : Later w w') : Box2 w' b x y := ⟨k.cell h.c0, k.cell h.c1, k.frozen h.c0 h.f0, k.frozen h.c1 h.f1⟩
theorem Box2.set {w : World} {b : Nat} {x y : Int} (h : Box2 w b x y) (p q : Int) :
    ((w.setCell ⟨b, 0, none⟩ (.int .i64 p)).setCell ⟨b, 1, none⟩ (.int .i64 q)).cell? ⟨b, 0, none⟩ = some (.int .i64 p) ∧ ((w.setCell ⟨b, 0, none⟩ (.int .i64 p)).setCell ⟨b, 1, none⟩ (.int .i64 q)).cell? ⟨b, 1, none⟩ = some (.int .i64 q) :=
  ⟨(World.cell?_setCell_other _ _ _ _ (by simp)).trans (World.cell?_setCell_same _ _ _ h.c0), World.cell?_setCell_same _ _ _ ((World.cell?_setCell_other _ _ _ _ (by simp)).trans h.c1)⟩
theorem later_set2 {w0 w : World} {b : Nat} (h : Later w0 w) (hb : w0.heap.size ≤ b) (p q : Value) : Later w0 ((w.setCell ⟨b, 0, none⟩ p).setCell ⟨b, 1, none⟩ q) := Below.setCell (Below.setCell h hb _) hb _

theorem results_cell_2 {fn : Func} {p u t : Tmp} {ty : TypeId} (h : fn.results = #[.cell p ty, .tmp u, .tmp t]) (tmps : Array Value) (P : Program) (w : World) :
    (results fn tmps).run P w =
      ((asAddr (tmps.getD p undef)).run P w).andThen fun a w₁ => ((loadVar ty a).run P w₁).andThen fun v w₂ => .ok (.tuple #[v, tmps.getD u undef, tmps.getD t undef]) w₂ := by
  simp only [results, h]
  simp [Sem.run_bind, Result.andThen]
theorem tree_index0 (v0 v1 v2 v3 v4 v5 v6 v7 v8 v9 v10 v11 : Value) (w : World) :
    (Instr.index 86 (.agg #[v0, v1, v2, v3, v4, v5, v6, v7, v8, v9, v10, v11]) (.int .i64 0)).run Try.prog w = .ok (.agg #[v0, v1, v2, v3]) w := by
  simp [Instr.index, run_underlying Try.underlying86, asIntOf, go_sem]
theorem tree_index1 (v0 v1 v2 v3 v4 v5 v6 v7 v8 v9 v10 v11 : Value) (w : World) :
    (Instr.index 86 (.agg #[v0, v1, v2, v3, v4, v5, v6, v7, v8, v9, v10, v11]) (.int .i64 1)).run Try.prog w = .ok (.agg #[v4, v5, v6, v7]) w := by
  simp [Instr.index, run_underlying Try.underlying86, asIntOf, go_sem]
theorem tree_index2 (v0 v1 v2 v3 v4 v5 v6 v7 v8 v9 v10 v11 : Value) (w : World) :
    (Instr.index 86 (.agg #[v0, v1, v2, v3, v4, v5, v6, v7, v8, v9, v10, v11]) (.int .i64 2)).run Try.prog w = .ok (.agg #[v8, v9, v10, v11]) w := by
  simp [Instr.index, run_underlying Try.underlying86, asIntOf, go_sem]

set_option maxRecDepth 20000 in
set_option maxHeartbeats 4000000 in
theorem parent_any (m n : Int) (s0 s1 s2 : St) (hg : Good3 s0 s1 s2) (w : World) (hm : -100000 ≤ m ∧ m ≤ 100000) (hn : -100000 ≤ n ∧ n ≤ 100000) :
    Calls Try.prog 133 #[.agg #[.int .i64 m, .int .i64 n], .agg (tree3 s0 s1 s2).toArray] w fun e w' => e = .returned (parV s0 s1 s2 m n) ∧ Later w w' := by
  have HB0 := hid (fun w0 => before_any m n s0 hg.g0 hg.d0 w0 hm hn)
  have HB1 := hid (fun w0 => before_any m n s1 hg.g1 hg.d1 w0 hm hn)
  have HB2 := hid (fun w0 => before_any m n s2 hg.g2 hg.d2 w0 hm hn)
  obtain ⟨p0, hp0⟩ : ∃ p, bef s0 m n = p := ⟨_, rfl⟩
  obtain ⟨p1, hp1⟩ : ∃ p, bef s1 m n = p := ⟨_, rfl⟩
  obtain ⟨p2, hp2⟩ : ∃ p, bef s2 m n = p := ⟨_, rfl⟩
  obtain ⟨o0, ho0⟩ : ∃ o, okB s0 m n = o := ⟨_, rfl⟩
  obtain ⟨o1, ho1⟩ : ∃ o, okB s1 m n = o := ⟨_, rfl⟩
  obtain ⟨o2, ho2⟩ : ∃ o, okB s2 m n = o := ⟨_, rfl⟩
  have HV := hid (show parV s0 s1 s2 m n = if o0 = true then .tuple #[.agg #[.int .i64 p0.1, .int .i64 p0.2], .int .i64 0, .bool true] else if o1 = true then .tuple #[.agg #[.int .i64 p1.1, .int .i64 p1.2], .int .i64 1, .bool true] else if o2 = true then .tuple #[.agg #[.int .i64 p2.1, .int .i64 p2.2], .int .i64 2, .bool true] else parNone by
    unfold parV parOf; rw [ho0, ho1, ho2, hp0, hp1, hp2])
  unfold befV at HB0 HB1 HB2
  rw [hp0, ho0] at HB0
  rw [hp1, ho1] at HB1
  rw [hp2, ho2] at HB2
  clear hp0 hp1 hp2 ho0 ho1 ho2 hg hm hn
  obtain ⟨a0, b0, c0, d0⟩ := s0
  obtain ⟨a1, b1, c1, d1⟩ := s1
  obtain ⟨a2, b2, c2, d2⟩ := s2
  obtain ⟨x0, y0⟩ := p0
  obtain ⟨x1, y1⟩ := p1
  obtain ⟨x2, y2⟩ := p2
  unfold stV at HB0 HB1 HB2
  unfold tree3
  simp only at HB0 HB1 HB2 HV ⊢
  have hL1 := Later.alloc w (.cells #[.int .i64 m, .int .i64 n] 66)
  have hL2 := Later.alloc (w.alloc (.cells #[.int .i64 m, .int .i64 n] 66)) (.cells #[.int .i64 a0, .int .i64 b0, .int .i64 c0, .int .i64 d0, .int .i64 a1, .int .i64 b1, .int .i64 c1, .int .i64 d1, .int .i64 a2, .int .i64 b2, .int .i64 c2, .int .i64 d2] 86)
  have hL3 := Later.alloc ((w.alloc (.cells #[.int .i64 m, .int .i64 n] 66)).alloc (.cells #[.int .i64 a0, .int .i64 b0, .int .i64 c0, .int .i64 d0, .int .i64 a1, .int .i64 b1, .int .i64 c1, .int .i64 d1, .int .i64 a2, .int .i64 b2, .int .i64 c2, .int .i64 d2] 86)) (.cells #[.int .i64 0, .int .i64 0] 66)
  have hX := ((Box2.new w m n 66).later hL2).later hL3
  have hR := Box2.new ((w.alloc (.cells #[.int .i64 m, .int .i64 n] 66)).alloc (.cells #[.int .i64 a0, .int .i64 b0, .int .i64 c0, .int .i64 d0, .int .i64 a1, .int .i64 b1, .int .i64 c1, .int .i64 d1, .int .i64 a2, .int .i64 b2, .int .i64 c2, .int .i64 d2] 86)) 0 0 66
  have hsz2 : ((w.alloc (.cells #[.int .i64 m, .int .i64 n] 66)).alloc (.cells #[.int .i64 a0, .int .i64 b0, .int .i64 c0, .int .i64 d0, .int .i64 a1, .int .i64 b1, .int .i64 c1, .int .i64 d1, .int .i64 a2, .int .i64 b2, .int .i64 c2, .int .i64 d2] 86)).heap.size = w.heap.size + 1 + 1 := by simp
  rw [hsz2] at hR
  have HX := hid hX
  have HR := hid hR
  have HL := hid ((hL1.trans hL2).trans hL3)
  clear hL1 hL2 hL3 hX hR hsz2
  go_enter Try.func133, Try.ntmps133
  go_wp2_with fail
  generalize ((w.alloc (.cells #[.int .i64 m, .int .i64 n] 66)).alloc (.cells #[.int .i64 a0, .int .i64 b0, .int .i64 c0, .int .i64 d0, .int .i64 a1, .int .i64 b1, .int .i64 c1, .int .i64 d1, .int .i64 a2, .int .i64 b2, .int .i64 c2, .int .i64 d2] 86)).alloc (.cells #[.int .i64 0, .int .i64 0] 66) = w3 at HX HR HL ⊢
  obtain ⟨B, hB⟩ : ∃ B, w.heap.size = B := ⟨_, rfl⟩
  have HWB := hid (show w.heap.size ≤ B + 1 + 1 by omega)
  rw [hB] at HX HR ⊢
  clear hB
  go_loopw [12] (fun i wr => ∃ k : Nat, k ≤ 3 ∧ i = .int .i64 k ∧ (0 < k → o0 = false) ∧ (1 < k → o1 = false) ∧ (2 < k → o2 = false) ∧ Later w3 wr) (fun i _ => 3 - (intOf i).toNat)
  case atStart => exact ⟨0, by omega, rfl, fun h => by omega, fun h => by omega, fun h => by omega, Later.refl _⟩
  case round =>
    obtain ⟨k, hk, rfl, z0, z1, z2, hL⟩ := hrel
    have HXr := hid (HX.out.later hL)
    have HRr := hid (HR.out.later hL)
    have HLr := hid (HL.out.trans hL)
    have HL3 := hid hL
    have hk4 : k = 0 ∨ k = 1 ∨ k = 2 ∨ k = 3 := by omega
    obtain ⟨e0, e1, e2, e3⟩ := HXr.out
    have Z0 := hid z0
    have Z1 := hid z1
    have Z2 := hid z2
    clear hL z0 z1 z2 hk e2 e3
    rcases hk4 with rfl | rfl | rfl | rfl
    · have hix := tree_index0 (.int .i64 a0) (.int .i64 b0) (.int .i64 c0) (.int .i64 d0) (.int .i64 a1) (.int .i64 b1) (.int .i64 c1) (.int .i64 d1) (.int .i64 a2) (.int .i64 b2) (.int .i64 c2) (.int .i64 d2) wr
      have hA := Later.alloc wr (.cells #[.int .i64 a0, .int .i64 b0, .int .i64 c0, .int .i64 d0] 84)
      have g0 := hA.cell e0
      have g1 := hA.cell e1
      have HRa := hid (HRr.out.later hA)
      have HLa := hid (HLr.out.trans hA)
      have HL3a := hid (HL3.out.trans hA)
      clear hA e0 e1
      go_wp2_with fail
      refine (HB0.out _).mono ?_
      rintro e w5 ⟨rfl, hL5⟩
      have hA5 := Later.alloc w5 (.cells #[.int .i64 x0, .int .i64 y0] 66)
      have HR6 := hid ((HRa.out.later hL5).later hA5)
      have HL6 := hid ((HLa.out.trans hL5).trans hA5)
      have HL36 := hid ((HL3a.out.trans hL5).trans hA5)
      have g0 := (Box2.new w5 x0 y0 66).c0
      have g1 := (Box2.new w5 x0 y0 66).c1
      obtain ⟨r0, r1, f0, f1⟩ := HR6.out
      clear hA5 hL5 HRa HLa HL3a hix
      cases ho : o0
      · have HO := hid ho
        clear ho
        go_wp2_with fail
        go_roundw
        case rel => exact ⟨1, by omega, rfl, fun _ => HO.out, fun h => by omega, fun h => by omega, HL36.out⟩
        case measure => simp [intOf]
      · have HE := hid (show parV ⟨a0, b0, c0, d0⟩ ⟨a1, b1, c1, d1⟩ ⟨a2, b2, c2, d2⟩ m n = .tuple #[.agg #[.int .i64 x0, .int .i64 y0], .int .i64 0, .bool true] by rw [HV.out, ho]; simp)
        clear ho
        go_wp2_with fail
        generalize w5.alloc (.cells #[.int .i64 x0, .int .i64 y0] 66) = w6 at HR6 HL6 HL36 g0 g1 r0 r1 f0 f1 ⊢
        have HL7 := hid (later_set2 HL6.out HWB.out (.int .i64 x0) (.int .i64 y0))
        obtain ⟨s0, s1⟩ := HR6.out.set x0 y0
        generalize ((w6.setCell ⟨B + 1 + 1, 0, none⟩ (.int .i64 x0)).setCell ⟨B + 1 + 1, 1, none⟩ (.int .i64 y0)) = w7 at HL7 s0 s1 ⊢
        clear g0 g1 r0 r1 f0 f1
        refine bodyPost_ret (v := .tuple #[.agg #[.int .i64 x0, .int .i64 y0], .int .i64 0, .bool true]) ?_ rfl ⟨by rw [HE.out], HL7.out⟩
        rw [results_cell_2 rfl]
        go_simp
    · have Y0 := hid (Z0.out (by omega))
      have hix := tree_index1 (.int .i64 a0) (.int .i64 b0) (.int .i64 c0) (.int .i64 d0) (.int .i64 a1) (.int .i64 b1) (.int .i64 c1) (.int .i64 d1) (.int .i64 a2) (.int .i64 b2) (.int .i64 c2) (.int .i64 d2) wr
      have hA := Later.alloc wr (.cells #[.int .i64 a1, .int .i64 b1, .int .i64 c1, .int .i64 d1] 84)
      have g0 := hA.cell e0
      have g1 := hA.cell e1
      have HRa := hid (HRr.out.later hA)
      have HLa := hid (HLr.out.trans hA)
      have HL3a := hid (HL3.out.trans hA)
      clear hA e0 e1
      go_wp2_with fail
      refine (HB1.out _).mono ?_
      rintro e w5 ⟨rfl, hL5⟩
      have hA5 := Later.alloc w5 (.cells #[.int .i64 x1, .int .i64 y1] 66)
      have HR6 := hid ((HRa.out.later hL5).later hA5)
      have HL6 := hid ((HLa.out.trans hL5).trans hA5)
      have HL36 := hid ((HL3a.out.trans hL5).trans hA5)
      have g0 := (Box2.new w5 x1 y1 66).c0
      have g1 := (Box2.new w5 x1 y1 66).c1
      obtain ⟨r0, r1, f0, f1⟩ := HR6.out
      clear hA5 hL5 HRa HLa HL3a hix
      cases ho : o1
      · have HO := hid ho
        clear ho
        go_wp2_with fail
        go_roundw
        case rel => exact ⟨2, by omega, rfl, fun _ => Y0.out, fun _ => HO.out, fun h => by omega, HL36.out⟩
        case measure => simp [intOf]
      · have HE := hid (show parV ⟨a0, b0, c0, d0⟩ ⟨a1, b1, c1, d1⟩ ⟨a2, b2, c2, d2⟩ m n = .tuple #[.agg #[.int .i64 x1, .int .i64 y1], .int .i64 1, .bool true] by rw [HV.out, ho, Y0.out]; simp)
        clear ho
        go_wp2_with fail
        generalize w5.alloc (.cells #[.int .i64 x1, .int .i64 y1] 66) = w6 at HR6 HL6 HL36 g0 g1 r0 r1 f0 f1 ⊢
        have HL7 := hid (later_set2 HL6.out HWB.out (.int .i64 x1) (.int .i64 y1))
        obtain ⟨s0, s1⟩ := HR6.out.set x1 y1
        generalize ((w6.setCell ⟨B + 1 + 1, 0, none⟩ (.int .i64 x1)).setCell ⟨B + 1 + 1, 1, none⟩ (.int .i64 y1)) = w7 at HL7 s0 s1 ⊢
        clear g0 g1 r0 r1 f0 f1
        refine bodyPost_ret (v := .tuple #[.agg #[.int .i64 x1, .int .i64 y1], .int .i64 1, .bool true]) ?_ rfl ⟨by rw [HE.out], HL7.out⟩
        rw [results_cell_2 rfl]
        go_simp
    · have Y0 := hid (Z0.out (by omega))
      have Y1 := hid (Z1.out (by omega))
      have hix := tree_index2 (.int .i64 a0) (.int .i64 b0) (.int .i64 c0) (.int .i64 d0) (.int .i64 a1) (.int .i64 b1) (.int .i64 c1) (.int .i64 d1) (.int .i64 a2) (.int .i64 b2) (.int .i64 c2) (.int .i64 d2) wr
      have hA := Later.alloc wr (.cells #[.int .i64 a2, .int .i64 b2, .int .i64 c2, .int .i64 d2] 84)
      have g0 := hA.cell e0
      have g1 := hA.cell e1
      have HRa := hid (HRr.out.later hA)
      have HLa := hid (HLr.out.trans hA)
      have HL3a := hid (HL3.out.trans hA)
      clear hA e0 e1
      go_wp2_with fail
      refine (HB2.out _).mono ?_
      rintro e w5 ⟨rfl, hL5⟩
      have hA5 := Later.alloc w5 (.cells #[.int .i64 x2, .int .i64 y2] 66)
      have HR6 := hid ((HRa.out.later hL5).later hA5)
      have HL6 := hid ((HLa.out.trans hL5).trans hA5)
      have HL36 := hid ((HL3a.out.trans hL5).trans hA5)
      have g0 := (Box2.new w5 x2 y2 66).c0
      have g1 := (Box2.new w5 x2 y2 66).c1
      obtain ⟨r0, r1, f0, f1⟩ := HR6.out
      clear hA5 hL5 HRa HLa HL3a hix
      cases ho : o2
      · have HO := hid ho
        clear ho
        go_wp2_with fail
        go_roundw
        case rel => exact ⟨3, by omega, rfl, fun _ => Y0.out, fun _ => Y1.out, fun _ => HO.out, HL36.out⟩
        case measure => simp [intOf]
      · have HE := hid (show parV ⟨a0, b0, c0, d0⟩ ⟨a1, b1, c1, d1⟩ ⟨a2, b2, c2, d2⟩ m n = .tuple #[.agg #[.int .i64 x2, .int .i64 y2], .int .i64 2, .bool true] by rw [HV.out, ho, Y0.out, Y1.out]; simp)
        clear ho
        go_wp2_with fail
        generalize w5.alloc (.cells #[.int .i64 x2, .int .i64 y2] 66) = w6 at HR6 HL6 HL36 g0 g1 r0 r1 f0 f1 ⊢
        have HL7 := hid (later_set2 HL6.out HWB.out (.int .i64 x2) (.int .i64 y2))
        obtain ⟨s0, s1⟩ := HR6.out.set x2 y2
        generalize ((w6.setCell ⟨B + 1 + 1, 0, none⟩ (.int .i64 x2)).setCell ⟨B + 1 + 1, 1, none⟩ (.int .i64 y2)) = w7 at HL7 s0 s1 ⊢
        clear g0 g1 r0 r1 f0 f1
        refine bodyPost_ret (v := .tuple #[.agg #[.int .i64 x2, .int .i64 y2], .int .i64 2, .bool true]) ?_ rfl ⟨by rw [HE.out], HL7.out⟩
        rw [results_cell_2 rfl]
        go_simp
    · have Y0 := hid (Z0.out (by omega))
      have Y1 := hid (Z1.out (by omega))
      have Y2 := hid (Z2.out (by omega))
      have HE := hid (show parV ⟨a0, b0, c0, d0⟩ ⟨a1, b1, c1, d1⟩ ⟨a2, b2, c2, d2⟩ m n = .tuple #[.agg #[.int .i64 0, .int .i64 0], .int .i64 0, .bool false] by rw [HV.out, Y0.out, Y1.out, Y2.out]; simp [parNone])
      obtain ⟨r0, r1, f0, f1⟩ := HRr.out
      clear e0 e1
      go_wp2_with fail
      refine bodyPost_ret (v := .tuple #[.agg #[.int .i64 0, .int .i64 0], .int .i64 0, .bool false]) ?_ rfl ⟨by rw [HE.out], ?_⟩
      · rw [results_cell_2 rfl]
        go_simp
      · first | exact HLr.out | exact later_set2 HLr.out HWB.out _ _
end Go.Proofs.Ytdahhcigphhfdac
