/- Equations of Hurwitz: a jump (the program's closure). -/
import Derived.Test.YtoaopmafokoaoaaHuZ
namespace Go.Proofs.Ytoaopmafokoaoaa
open Go.RowKit

theorem Arr4.setAt {w : World} {B : Nat} {x y z t : Int} (h : Arr4 w B x y z t) (i : Nat) (hi : i < 4) (r : Int) :
    ∃ x' y' z' t', Arr4 (w.setCell ⟨B, i, none⟩ (.int .i64 r)) B x' y' z' t' ∧ [x', y', z', t'] = [x, y, z, t].set i r := by
  have h4 : i = 0 ∨ i = 1 ∨ i = 2 ∨ i = 3 := by omega
  rcases h4 with rfl | rfl | rfl | rfl
  · exact ⟨r, y, z, t, ⟨World.cell?_setCell_same _ _ _ h.c0, (World.cell?_setCell_other _ _ _ _ (by simp)).trans h.c1, (World.cell?_setCell_other _ _ _ _ (by simp)).trans h.c2, (World.cell?_setCell_other _ _ _ _ (by simp)).trans h.c3⟩, rfl⟩
  · exact ⟨x, r, z, t, ⟨(World.cell?_setCell_other _ _ _ _ (by simp)).trans h.c0, World.cell?_setCell_same _ _ _ h.c1, (World.cell?_setCell_other _ _ _ _ (by simp)).trans h.c2, (World.cell?_setCell_other _ _ _ _ (by simp)).trans h.c3⟩, rfl⟩
  · exact ⟨x, y, r, t, ⟨(World.cell?_setCell_other _ _ _ _ (by simp)).trans h.c0, (World.cell?_setCell_other _ _ _ _ (by simp)).trans h.c1, World.cell?_setCell_same _ _ _ h.c2, (World.cell?_setCell_other _ _ _ _ (by simp)).trans h.c3⟩, rfl⟩
  · exact ⟨x, y, z, r, ⟨(World.cell?_setCell_other _ _ _ _ (by simp)).trans h.c0, (World.cell?_setCell_other _ _ _ _ (by simp)).trans h.c1, (World.cell?_setCell_other _ _ _ _ (by simp)).trans h.c2, World.cell?_setCell_same _ _ _ h.c3⟩, rfl⟩
theorem Q4.bd {x y z t : Int} (h : Q4 x y z t) {i : Nat} {r : Int} (hr : 1 ≤ r ∧ r ≤ 100000) {x' y' z' t' : Int} (he : [x', y', z', t'] = [x, y, z, t].set i r) :
    (0 ≤ x' ∧ x' ≤ 100000) ∧ (0 ≤ y' ∧ y' ≤ 100000) ∧ (0 ≤ z' ∧ z' ≤ 100000) ∧ (0 ≤ t' ∧ t' ≤ 100000) := by
  obtain ⟨hx, hy, hz, ht⟩ := h
  have key : ∀ u ∈ [x', y', z', t'], 0 ≤ u ∧ u ≤ 100000 := by
    intro u hu
    rw [he] at hu
    rcases List.mem_or_eq_of_mem_set hu with h1 | rfl
    · simp at h1; omega
    · omega
  exact ⟨key x' (by simp), key y' (by simp), key z' (by simp), key t' (by simp)⟩
theorem Arr4.keep {w w' : World} {B : Nat} {x y z t : Int} (h : Arr4 w B x y z t) (k : w'.heap[B]? = w.heap[B]?) : Arr4 w' B x y z t :=
  ⟨cell_keep h.c0 k, cell_keep h.c1 k, cell_keep h.c2 k, cell_keep h.c3 k⟩
theorem Frz4.keep {w w' : World} {B : Nat} (h : Frz4 w B) (k : w'.heap[B]? = w.heap[B]?) : Frz4 w' B :=
  ⟨(World.frozen?_of_block k).trans h.f0, (World.frozen?_of_block k).trans h.f1, (World.frozen?_of_block k).trans h.f2, (World.frozen?_of_block k).trans h.f3⟩
theorem Frz4.set {w : World} {B : Nat} (h : Frz4 w B) (a : Addr) (v : Value) : Frz4 (w.setCell a v) B :=
  ⟨by rw [World.frozen?_setCell]; exact h.f0, by rw [World.frozen?_setCell]; exact h.f1, by rw [World.frozen?_setCell]; exact h.f2, by rw [World.frozen?_setCell]; exact h.f3⟩
theorem Arr4.lt {w : World} {B : Nat} {x y z t : Int} (h : Arr4 w B x y z t) : B < w.heap.size := World.block_lt_of_cell? w ⟨B, 0, none⟩ h.c0
theorem len3 {zs : List Int} (h : zs.length = 3) : ∃ a b c, zs = [a, b, c] := by
  match zs, h with
  | [a, b, c], _ => exact ⟨a, b, c, rfl⟩
theorem len4 {zs : List Int} (h : zs.length = 4) : ∃ a b c d, zs = [a, b, c, d] := by
  match zs, h with
  | [a, b, c, d], _ => exact ⟨a, b, c, d, rfl⟩
theorem jump_quad {x y z t : Int} (hq : Q4 x y z t) {i : Nat} (hi : i < qN t) {r : Int} (hr : 1 ≤ r ∧ r ≤ 100000) {p q u s : Int} (hs : sortD ([x, y, z, t].set i r) = [p, q, u, s]) :
    qL p q u s = sortD ((qL x y z t).set i r) ∧ Q4 p q u s := by
  have h5 := set_in5 hq.in5 i hr
  have hin : In5 (sortD ((qL x y z t).set i r)) := fun v hv => h5 v ((sortD_perm _).mem_iff.1 hv)
  by_cases h0 : t = 0
  · subst h0
    have e : qL x y z 0 = [x, y, z] := by simp [qL]
    have hi3 : i < 3 := by simpa [qN] using hi
    rw [e] at h5 hin ⊢
    rw [show [x, y, z, 0] = [x, y, z] ++ [0] from rfl, List.set_append_left i r (by simpa using hi3), sortD_zero h5] at hs
    obtain ⟨a, b, c, habc⟩ := len3 (show (sortD ([x, y, z].set i r)).length = 3 by rw [sortD_len, List.length_set]; rfl)
    rw [habc] at hs hin ⊢
    simp only [List.cons_append, List.nil_append, List.cons.injEq, and_true] at hs
    obtain ⟨rfl, rfl, rfl, rfl⟩ := hs
    exact ⟨by simp [qL], ⟨hin a (by simp), hin b (by simp), hin c (by simp), by omega⟩⟩
  · have e : qL x y z t = [x, y, z, t] := by simp [qL, h0]
    rw [e] at h5 hin ⊢
    rw [hs] at hin ⊢
    have hs5 := hin s (by simp)
    exact ⟨by unfold qL; rw [if_neg (by omega)], ⟨hin p (by simp), hin q (by simp), hin u (by simp), by omega⟩⟩
def JumpRes (w : World) (o : Option (List Int)) (e : Ending) (w' : World) : Prop := (o = none ∧ NoSol w e w') ∨ ∃ p q r s, o = some (qL p q r s) ∧ Q4 p q r s ∧ YesSol w p q r s e w'

set_option maxRecDepth 20000 in
set_option maxHeartbeats 4000000 in
theorem jumpC_any (x y z t a b : Int) (i Ba : Nat) (w : World) (hS : Sol (qL x y z t) a b) (hq : Q4 x y z t) (hi : i < qN t) (ca : w.cell? ⟨Ba, 0, none⟩ = some (.int .i64 a)) :
    Calls Try.prog 141 #[.agg #[.int .i64 x, .int .i64 y, .int .i64 z, .int .i64 t], .int .i64 i, .pointer (some ⟨Ba, 0, none⟩)] w fun e w' => JumpRes w (jumpL a (qL x y z t) i) e w' := by
  have HS := hid hS
  have HQ := hid hq
  have HIB := hid hi
  have hi4 : i < 4 := by have := qN_bd t; omega
  have hA := (Later.alloc w (.cells #[.int .i64 x, .int .i64 y, .int .i64 z, .int .i64 t] 69)).trans (Later.alloc _ (.cells #[.int .i64 0, .int .i64 0, .int .i64 0, .int .i64 0] 69))
  have HL := hid hA
  have ca1 := (Later.alloc w (.cells #[.int .i64 x, .int .i64 y, .int .i64 z, .int .i64 t] 69)).cell ca
  have ca2 := hA.cell ca
  have HA := hid ((arr4_alloc w x y z t).later (Later.alloc _ (.cells #[.int .i64 0, .int .i64 0, .int .i64 0, .int .i64 0] 69)))
  have HF : Hid (Frz4 ((w.alloc (.cells #[.int .i64 x, .int .i64 y, .int .i64 z, .int .i64 t] 69)).alloc (.cells #[.int .i64 0, .int .i64 0, .int .i64 0, .int .i64 0] 69)) w.heap.size) := hid ⟨by simp [go_sem], by simp [go_sem], by simp [go_sem], by simp [go_sem]⟩
  have hr := arr4_alloc (w.alloc (.cells #[.int .i64 x, .int .i64 y, .int .i64 z, .int .i64 t] 69)) 0 0 0 0
  rw [show (w.alloc (.cells #[.int .i64 x, .int .i64 y, .int .i64 z, .int .i64 t] 69)).heap.size = w.heap.size + 1 by simp] at hr
  have HR := hid hr
  have HRF : Hid (Frz4 ((w.alloc (.cells #[.int .i64 x, .int .i64 y, .int .i64 z, .int .i64 t] 69)).alloc (.cells #[.int .i64 0, .int .i64 0, .int .i64 0, .int .i64 0] 69)) (w.heap.size + 1)) := hid ⟨by simp [go_sem], by simp [go_sem], by simp [go_sem], by simp [go_sem]⟩
  obtain ⟨c0, c1, c2, c3⟩ := HA.out
  have hii : (i : Int) < 4 := by omega
  clear hS hq hi hA hr ca
  go_enter Try.func141, Try.ntmps141
  go_wp2_with fail
  generalize ((w.alloc (.cells #[.int .i64 x, .int .i64 y, .int .i64 z, .int .i64 t] 69)).alloc (.cells #[.int .i64 0, .int .i64 0, .int .i64 0, .int .i64 0] 69)) = w2 at HL ca2 HA HF HR HRF c0 c1 c2 c3 ⊢
  clear ca1
  refine (otherRootS_any x y z t a b i _ HIB.out HS.out).mono ?_
  rintro e w3 ⟨rfl, hL3⟩
  have HL3 := hid (HL.out.trans hL3)
  have HA3 := hid (HA.out.later hL3)
  have HR3 := hid (HR.out.later hL3)
  have HF3 : Hid (Frz4 w3 w.heap.size) := hid ⟨hL3.frozen c0 HF.out.f0, hL3.frozen c1 HF.out.f1, hL3.frozen c2 HF.out.f2, hL3.frozen c3 HF.out.f3⟩
  have HRF3 : Hid (Frz4 w3 (w.heap.size + 1)) := hid ⟨hL3.frozen HR.out.c0 HRF.out.f0, hL3.frozen HR.out.c1 HRF.out.f1, hL3.frozen HR.out.c2 HRF.out.f2, hL3.frozen HR.out.c3 HRF.out.f3⟩
  clear hL3 HL HA HF HR HRF c0 c1 c2 c3 ca2
  obtain ⟨c0, c1, c2, c3⟩ := HA3.out
  obtain ⟨f0, f1, f2, f3⟩ := HF3.out
  obtain ⟨r0, r1, r2, r3⟩ := HR3.out
  obtain ⟨g0, g1, g2, g3⟩ := HRF3.out
  obtain ⟨o, ho⟩ : ∃ o, othL a (qL x y z t) i = o := ⟨_, rfl⟩
  rw [ho]
  by_cases hw : 1 ≤ o ∧ o ≤ 100000
  · have HJ := hid (show jumpL a (qL x y z t) i = some (sortD ((qL x y z t).set i o)) by unfold jumpL; rw [ho, if_pos (within5.2 hw)])
    have HW := hid hw
    obtain ⟨o1, o2⟩ := hw
    have hd1 : decide (o < 1) = false := decide_eq_false (by omega)
    have hd2 : decide (100000 < o) = false := decide_eq_false (by omega)
    have dat := HA3.out.at i hi4
    have fat : w3.frozen? ⟨w.heap.size, i, none⟩ = false := by
      have h4 : i = 0 ∨ i = 1 ∨ i = 2 ∨ i = 3 := by omega
      rcases h4 with rfl | rfl | rfl | rfl
      · exact f0
      · exact f1
      · exact f2
      · exact f3
    clear ho c0 c1 c2 c3 f0 f1 f2 f3
    go_wp2_with fail
    obtain ⟨x', y', z', t', hA4, he⟩ := HA3.out.setAt i hi4 o
    have hF4 := HF3.out.set ⟨w.heap.size, i, none⟩ (.int .i64 o)
    have HL4 := hid (show Later w (w3.setCell ⟨w.heap.size, i, none⟩ (.int .i64 o)) from HL3.out.setCell (Nat.le_refl _) _)
    have hk4 : (w3.setCell ⟨w.heap.size, i, none⟩ (.int .i64 o)).heap[w.heap.size + 1]? = w3.heap[w.heap.size + 1]? := heap_setCell_other _ _ _ _ (by simp)
    have HR4 := hid (HR3.out.keep hk4)
    have HRF4 := hid (HRF3.out.keep hk4)
    have HE := hid he
    generalize w3.setCell ⟨w.heap.size, i, none⟩ (.int .i64 o) = w4 at hA4 hF4 HL4 HR4 HRF4 ⊢
    obtain ⟨bx, by', bz, bt⟩ := HQ.out.bd HW.out he
    clear he hk4 r0 r1 r2 r3 g0 g1 g2 g3 dat fat
    refine (sort4_any w.heap.size x' y' z' t' w4 hA4 hF4 bx by' bz bt).mono ?_
    rintro e w5 ⟨rfl, hg, p, q, r, s, hsort, hA5, hF5⟩
    have hlt4 : w.heap.size + 1 < w4.heap.size := HR4.out.lt
    have hb5 : w5.heap[w.heap.size + 1]? = w4.heap[w.heap.size + 1]? := hg.block _ hlt4 (by simp)
    have HR5 := hid (HR4.out.keep hb5)
    have HRF5 := hid (HRF4.out.keep hb5)
    have HL5 := hid (show Later w w5 from Below.grown HL4.out hg (by omega) (fun j hj => by simp at hj; omega))
    rw [HE.out] at hsort
    obtain ⟨hql, hq4⟩ := jump_quad HQ.out HIB.out HW.out hsort
    have HQL := hid hql
    have HQ4 := hid hq4
    obtain ⟨c0, c1, c2, c3⟩ := hA5
    obtain ⟨r0, r1, r2, r3⟩ := HR5.out
    obtain ⟨g0, g1, g2, g3⟩ := HRF5.out
    clear hg hsort hA4 hF4 hF5 hb5 hlt4 bx by' bz bt hql hq4 HE
    go_wp2_with fail
    have HL6 := hid (show Later w ((((w5.setCell ⟨w.heap.size + 1, 0, none⟩ (.int .i64 p)).setCell ⟨w.heap.size + 1, 1, none⟩ (.int .i64 q)).setCell ⟨w.heap.size + 1, 2, none⟩ (.int .i64 r)).setCell ⟨w.heap.size + 1, 3, none⟩ (.int .i64 s)) from Below.setCell (Below.setCell (Below.setCell (Below.setCell HL5.out (by simp) _) (by simp) _) (by simp) _) (by simp) _)
    obtain ⟨e0, e1, e2, e3⟩ := HR5.out.set p q r s
    generalize ((((w5.setCell ⟨w.heap.size + 1, 0, none⟩ (.int .i64 p)).setCell ⟨w.heap.size + 1, 1, none⟩ (.int .i64 q)).setCell ⟨w.heap.size + 1, 2, none⟩ (.int .i64 r)).setCell ⟨w.heap.size + 1, 3, none⟩ (.int .i64 s)) = w6 at HL6 e0 e1 e2 e3 ⊢
    clear r0 r1 r2 r3 g0 g1 g2 g3 c0 c1 c2 c3
    refine bodyPost_ret (v := .tuple #[.agg #[.int .i64 p, .int .i64 q, .int .i64 r, .int .i64 s], .bool true]) ?_ rfl (.inr ⟨p, q, r, s, by rw [HJ.out, HQL.out], HQ4.out, rfl, HL6.out⟩)
    rw [results_cell_tmp rfl]
    go_simp
  · have HJ := hid (show jumpL a (qL x y z t) i = none by unfold jumpL; rw [ho, if_neg]; intro h; exact hw (within5.1 h))
    have fin : ∀ w4, Arr4 w4 (w.heap.size + 1) 0 0 0 0 → Later w w4 → JumpRes w (jumpL a (qL x y z t) i) (.returned (.tuple #[.agg #[.int .i64 0, .int .i64 0, .int .i64 0, .int .i64 0], .bool false])) w4 := fun w4 _ hl => .inl ⟨HJ.out, rfl, hl⟩
    have HFIN := hid fin
    clear fin
    by_cases h1 : o < 1
    · have hd1 : decide (o < 1) = true := decide_eq_true h1
      clear hw ho
      go_wp2_with fail
      refine bodyPost_ret (v := .tuple #[.agg #[.int .i64 0, .int .i64 0, .int .i64 0, .int .i64 0], .bool false]) ?_ rfl (HFIN.out _ ?_ ?_)
      · rw [results_cell_tmp rfl]
        go_simp
      · first | exact HR3.out | exact HR3.out.set 0 0 0 0
      · first | exact HL3.out | exact Below.setCell (Below.setCell (Below.setCell (Below.setCell HL3.out (by simp) _) (by simp) _) (by simp) _) (by simp) _
    · have hd1 : decide (o < 1) = false := decide_eq_false h1
      have hd2 : decide (100000 < o) = true := decide_eq_true (by omega)
      clear hw ho
      go_wp2_with fail
      refine bodyPost_ret (v := .tuple #[.agg #[.int .i64 0, .int .i64 0, .int .i64 0, .int .i64 0], .bool false]) ?_ rfl (HFIN.out _ ?_ ?_)
      · rw [results_cell_tmp rfl]
        go_simp
      · first | exact HR3.out | exact HR3.out.set 0 0 0 0
      · first | exact HL3.out | exact Below.setCell (Below.setCell (Below.setCell (Below.setCell HL3.out (by simp) _) (by simp) _) (by simp) _) (by simp) _
end Go.Proofs.Ytoaopmafokoaoaa
