/- HuJ, HuK: in one text. -/
import Derived.Test.YtoaopmafokoaoaaHuI
import Derived.Laws.CopyOwn
import Derived.Laws.ResultCell
import Derived.Deep.DeepCutAuto
namespace Go.Proofs.Ytoaopmafokoaoaa
open Go.RowKit


theorem givenB_false {a b : Int} (h : givenB a b = false) : within 1 20 a = false ∨ (within 1 20 a = true ∧ within (-50) 50 b = false) := by
  unfold givenB at h
  cases h1 : within 1 20 a <;> simp_all
theorem givenB_true {a b : Int} (h : givenB a b = true) : within 1 20 a = true ∧ within (-50) 50 b = true := by
  unfold givenB at h
  simpa using h
def NoSol (w : World) (e : Ending) (w' : World) : Prop := e = .returned (.tuple #[.agg #[.int .i64 0, .int .i64 0, .int .i64 0, .int .i64 0], .bool false]) ∧ Later w w'
def YesSol (w : World) (x y z t : Int) (e : Ending) (w' : World) : Prop := e = .returned (.tuple #[.agg #[.int .i64 x, .int .i64 y, .int .i64 z, .int .i64 t], .bool true]) ∧ Later w w'
def SolRes (w : World) (o : Bool) (x y z t : Int) (e : Ending) (w' : World) : Prop := (o = true ∧ YesSol w x y z t e w') ∨ (o = false ∧ NoSol w e w')
theorem Arr4.set {w : World} {B : Nat} {x y z t : Int} (h : Arr4 w B x y z t) (p q r s : Int) :
    Arr4 ((((w.setCell ⟨B, 0, none⟩ (.int .i64 p)).setCell ⟨B, 1, none⟩ (.int .i64 q)).setCell ⟨B, 2, none⟩ (.int .i64 r)).setCell ⟨B, 3, none⟩ (.int .i64 s)) B p q r s :=
  ⟨(World.cell?_setCell_other _ _ _ _ (by simp)).trans ((World.cell?_setCell_other _ _ _ _ (by simp)).trans ((World.cell?_setCell_other _ _ _ _ (by simp)).trans (World.cell?_setCell_same _ _ _ h.c0))),
   (World.cell?_setCell_other _ _ _ _ (by simp)).trans ((World.cell?_setCell_other _ _ _ _ (by simp)).trans (World.cell?_setCell_same _ _ _ ((World.cell?_setCell_other _ _ _ _ (by simp)).trans h.c1))),
   (World.cell?_setCell_other _ _ _ _ (by simp)).trans (World.cell?_setCell_same _ _ _ ((World.cell?_setCell_other _ _ _ _ (by simp)).trans ((World.cell?_setCell_other _ _ _ _ (by simp)).trans h.c2))),
   World.cell?_setCell_same _ _ _ ((World.cell?_setCell_other _ _ _ _ (by simp)).trans ((World.cell?_setCell_other _ _ _ _ (by simp)).trans ((World.cell?_setCell_other _ _ _ _ (by simp)).trans h.c3)))⟩
theorem frz4 (w : World) (o : Obj) (i : Nat) (cs : Array Value) (T : TypeId) (ho : o = .cells cs T (0, 0)) : (w.alloc o).frozen? ⟨w.heap.size, i, none⟩ = false := by subst ho; simp [go_sem]

theorem Ints.newsAt {w : World} {ad : Addr} {n c : Nat} {zs : List Int} (h : Ints w (.slice (some ad) n c) zs) : ∀ j u, (zs.map (Value.int .i64))[j]? = some u → w.cell? (ad.add j) = some u := by
  intro j u hj
  obtain ⟨a, cap, hv, _, hc⟩ := h
  simp only [Value.slice.injEq] at hv
  obtain ⟨rfl, _, rfl⟩ := hv
  have hlt : j < zs.length := by
    rcases Nat.lt_or_ge j zs.length with h | h
    · exact h
    · rw [List.getElem?_eq_none (by simpa using h)] at hj; cases hj
  obtain ⟨ad', e, hx⟩ := hc j hlt
  simp only [Option.some.injEq] at e
  subst e
  rw [hx]
  simp [hlt] at hj ⊢
  exact hj
theorem Ints.addr {w : World} {v : Value} {zs : List Int} (h : Ints w v zs) (h0 : 0 < zs.length) : ∃ ad cap, v = .slice (some ad) zs.length cap := by
  obtain ⟨a, cap, rfl, _, hc⟩ := h
  obtain ⟨ad, rfl, _⟩ := hc 0 h0
  exact ⟨ad, cap, rfl⟩
theorem arr4_splice {w : World} {B : Nat} {T : TypeId} (x y z t : Int) (h : w.heap[B]? = some (.cells (splice [.int .i64 0, .int .i64 0, .int .i64 0, .int .i64 0] 0 ((qL x y z t).map (Value.int .i64))).toArray T (0, 0))) :
    w.heap[B]? = some (.cells #[.int .i64 x, .int .i64 y, .int .i64 z, .int .i64 t] T (0, 0)) := by
  rw [h]
  unfold qL
  split
  · rename_i h0; subst h0; rfl
  · rfl
theorem arr4_block {w : World} {B : Nat} {T : TypeId} {x y z t : Int} (h : w.heap[B]? = some (.cells #[.int .i64 x, .int .i64 y, .int .i64 z, .int .i64 t] T (0, 0))) : Arr4 w B x y z t :=
  ⟨by simp [World.cell?, h], by simp [World.cell?, h], by simp [World.cell?, h], by simp [World.cell?, h]⟩

set_option maxRecDepth 20000 in
set_option maxHeartbeats 4000000 in
theorem solutionOf_at (v : Value) (x y z t : Int) (a b : Int) (w : World) (h1 : within 1 20 a = true) (h2 : within (-50) 50 b = true) (h3 : (lenB (qL x y z t) && fallB 100000 (qL x y z t)) = true) (hq : Q4 x y z t) (h : Ints w v (qL x y z t)) :
    Calls Try.prog 47 #[v, .int .i64 a, .int .i64 b] w fun e w' => SolRes w (decide (facL (sqs (qL x y z t) - b) (qL x y z t) = a)) x y z t e w' := by
  have H1 := hid h1
  have H2 := hid h2
  have H3 := hid h3
  have HQ := hid hq
  have hB : -50 ≤ b ∧ b ≤ 50 := by simpa [within] using h2
  have HB := hid hB
  have hA := Later.alloc w (.cells #[.int .i64 0, .int .i64 0, .int .i64 0, .int .i64 0] 69)
  have hA2 := hA.trans (Later.alloc (w.alloc (.cells #[.int .i64 0, .int .i64 0, .int .i64 0, .int .i64 0] 69)) (.cells #[.int .i64 0, .int .i64 0, .int .i64 0, .int .i64 0] 69))
  have H := hid (h.later hA)
  have HI2 := hid (h.later hA2)
  obtain ⟨ad, cap, rfl⟩ := h.addr (by rw [qL_len]; have := qN_bd t; omega)
  obtain ⟨c0, c1, c2, c3⟩ := arr4_alloc w 0 0 0 0
  have f0 : (w.alloc (.cells #[.int .i64 0, .int .i64 0, .int .i64 0, .int .i64 0] 69)).frozen? ⟨w.heap.size, 0, none⟩ = false := by simp [go_sem]
  have f1 : (w.alloc (.cells #[.int .i64 0, .int .i64 0, .int .i64 0, .int .i64 0] 69)).frozen? ⟨w.heap.size, 1, none⟩ = false := by simp [go_sem]
  have f2 : (w.alloc (.cells #[.int .i64 0, .int .i64 0, .int .i64 0, .int .i64 0] 69)).frozen? ⟨w.heap.size, 2, none⟩ = false := by simp [go_sem]
  have f3 : (w.alloc (.cells #[.int .i64 0, .int .i64 0, .int .i64 0, .int .i64 0] 69)).frozen? ⟨w.heap.size, 3, none⟩ = false := by simp [go_sem]
  have HL := hid hA
  have hga := heap_alloc_new (w.alloc (.cells #[.int .i64 0, .int .i64 0, .int .i64 0, .int .i64 0] 69)) (.cells #[.int .i64 0, .int .i64 0, .int .i64 0, .int .i64 0] 69)
  rw [show (w.alloc (.cells #[.int .i64 0, .int .i64 0, .int .i64 0, .int .i64 0] 69)).heap.size = w.heap.size + 1 by simp] at hga
  have HGA := hid hga
  clear hA hA2 h1 h2 h3 hq hB h hga
  go_enter Try.func47, Try.ntmps47
  go_wp2_with fail
  refine (isFactor_as _ _ _ H1.out).mono ?_
  rintro e w' ⟨rfl, rfl⟩
  go_wp2_with fail
  refine (isRest_as _ _ _ H2.out).mono ?_
  rintro e w' ⟨rfl, rfl⟩
  go_wp2_with fail
  refine (areFallingParts_as _ _ _ _ H3.out H.out).mono ?_
  rintro e w' ⟨rfl, rfl⟩
  go_wp2_with (refine wpList_copy_splice rfl (.tmp 23) (.tmp 24) 24 24 rfl 3 Try.underlying24 (by kernel_rfl) (some ⟨w.heap.size + 1, 0, none⟩) (some ad) 4 4 (qL x y z t).length cap rfl rfl (w.heap.size + 1) 0 [.int .i64 0, .int .i64 0, .int .i64 0, .int .i64 0] 69 HGA.out ((qL x y z t).map (Value.int .i64)) (by rw [List.length_map, qL_len]; have := qN_bd t; show qN t = min (qN t) 4; omega) (fun _ => ⟨rfl, ad, rfl, HI2.out.newsAt⟩) (by rw [List.length_map, qL_len]; have := qN_bd t; simp; omega) (by intro v hv; obtain ⟨u, _, rfl⟩ := List.mem_map.1 hv; rfl) (w.heap.size + 1) (w.alloc (.cells #[.int .i64 0, .int .i64 0, .int .i64 0, .int .i64 0] 69)) ((Below.refl _ _).alloc (by simp) _) (Nat.le_refl _) ?_)
  intro w2 hg2 hb2
  have hL2 : Later (w.alloc (.cells #[.int .i64 0, .int .i64 0, .int .i64 0, .int .i64 0] 69)) w2 := by
    unfold Later; simpa using hb2
  have hbl := arr4_splice x y z t hg2.out
  obtain ⟨d0, d1, d2, d3⟩ := arr4_block hbl
  replace f0 := hL2.frozen c0 f0
  replace f1 := hL2.frozen c1 f1
  replace f2 := hL2.frozen c2 f2
  replace f3 := hL2.frozen c3 f3
  replace c0 := hL2.cell c0
  replace c1 := hL2.cell c1
  replace c2 := hL2.cell c2
  replace c3 := hL2.cell c3
  have HL2 := hid (HL.out.trans hL2)
  clear hg2 hb2 hL2 hbl HL HI2 H HGA
  go_wp2_with fail
  refine (factorFor_any x y z t b _ HQ.out HB.out).mono ?_
  rintro e w3 ⟨rfl, hL3⟩
  replace f0 := hL3.frozen c0 f0
  replace f1 := hL3.frozen c1 f1
  replace f2 := hL3.frozen c2 f2
  replace f3 := hL3.frozen c3 f3
  replace c0 := hL3.cell c0
  replace c1 := hL3.cell c1
  replace c2 := hL3.cell c2
  replace c3 := hL3.cell c3
  replace d0 := hL3.cell d0
  replace d1 := hL3.cell d1
  replace d2 := hL3.cell d2
  replace d3 := hL3.cell d3
  have HL3 := hid (HL2.out.trans hL3)
  clear hL3 HL2
  by_cases hfa : facL (sqs (qL x y z t) - b) (qL x y z t) = a
  · have HD := hid (decide_eq_true hfa)
    rw [hfa]
    have hb0 : (a != a) = false := by simp
    clear hfa
    go_wp2_with fail
    have HL4 := hid (show Later w ((((w3.setCell ⟨w.heap.size, 0, none⟩ (.int .i64 x)).setCell ⟨w.heap.size, 1, none⟩ (.int .i64 y)).setCell ⟨w.heap.size, 2, none⟩ (.int .i64 z)).setCell ⟨w.heap.size, 3, none⟩ (.int .i64 t)) from Below.setCell (Below.setCell (Below.setCell (Below.setCell HL3.out (by simp) _) (by simp) _) (by simp) _) (by simp) _)
    obtain ⟨e0, e1, e2, e3⟩ := (Arr4.mk c0 c1 c2 c3).set x y z t
    generalize ((((w3.setCell ⟨w.heap.size, 0, none⟩ (.int .i64 x)).setCell ⟨w.heap.size, 1, none⟩ (.int .i64 y)).setCell ⟨w.heap.size, 2, none⟩ (.int .i64 z)).setCell ⟨w.heap.size, 3, none⟩ (.int .i64 t)) = w4 at HL4 e0 e1 e2 e3 ⊢
    clear c0 c1 c2 c3 d0 d1 d2 d3 f0 f1 f2 f3
    refine bodyPost_ret (v := .tuple #[.agg #[.int .i64 x, .int .i64 y, .int .i64 z, .int .i64 t], .bool true]) ?_ rfl (.inl ⟨HD.out, rfl, HL4.out⟩)
    rw [results_cell_tmp rfl]
    go_simp
  · have HD := hid (decide_eq_false hfa)
    have hb0 : (facL (sqs (qL x y z t) - b) (qL x y z t) != a) = true := by simp [hfa]
    clear hfa
    go_wp2_with fail
    have HL4 := hid (show Later w ((((w3.setCell ⟨w.heap.size, 0, none⟩ (.int .i64 0)).setCell ⟨w.heap.size, 1, none⟩ (.int .i64 0)).setCell ⟨w.heap.size, 2, none⟩ (.int .i64 0)).setCell ⟨w.heap.size, 3, none⟩ (.int .i64 0)) from Below.setCell (Below.setCell (Below.setCell (Below.setCell HL3.out (by simp) _) (by simp) _) (by simp) _) (by simp) _)
    obtain ⟨e0, e1, e2, e3⟩ := (Arr4.mk c0 c1 c2 c3).set 0 0 0 0
    generalize ((((w3.setCell ⟨w.heap.size, 0, none⟩ (.int .i64 0)).setCell ⟨w.heap.size, 1, none⟩ (.int .i64 0)).setCell ⟨w.heap.size, 2, none⟩ (.int .i64 0)).setCell ⟨w.heap.size, 3, none⟩ (.int .i64 0)) = w4 at HL4 e0 e1 e2 e3 ⊢
    clear c0 c1 c2 c3 d0 d1 d2 d3 f0 f1 f2 f3
    refine bodyPost_ret (v := .tuple #[.agg #[.int .i64 0, .int .i64 0, .int .i64 0, .int .i64 0], .bool false]) ?_ rfl (.inr ⟨HD.out, rfl, HL4.out⟩)
    rw [results_cell_tmp rfl]
    go_simp
set_option maxRecDepth 20000 in
set_option maxHeartbeats 4000000 in
theorem solutionOf_no (v : Value) (zs : List Int) (a b : Int) (w : World) (hn : (givenB a b && solB zs a b) = false) (h : Ints w v zs) :
    Calls Try.prog 47 #[v, .int .i64 a, .int .i64 b] w fun e w' => NoSol w e w' := by
  have hA := Later.alloc w (.cells #[.int .i64 0, .int .i64 0, .int .i64 0, .int .i64 0] 69)
  have H := hid (h.later hA)
  obtain ⟨p, cap, rfl, hl, _⟩ := id h
  obtain ⟨c0, c1, c2, c3⟩ := arr4_alloc w 0 0 0 0
  have f0 : (w.alloc (.cells #[.int .i64 0, .int .i64 0, .int .i64 0, .int .i64 0] 69)).frozen? ⟨w.heap.size, 0, none⟩ = false := by simp [go_sem]
  have f1 : (w.alloc (.cells #[.int .i64 0, .int .i64 0, .int .i64 0, .int .i64 0] 69)).frozen? ⟨w.heap.size, 1, none⟩ = false := by simp [go_sem]
  have f2 : (w.alloc (.cells #[.int .i64 0, .int .i64 0, .int .i64 0, .int .i64 0] 69)).frozen? ⟨w.heap.size, 2, none⟩ = false := by simp [go_sem]
  have f3 : (w.alloc (.cells #[.int .i64 0, .int .i64 0, .int .i64 0, .int .i64 0] 69)).frozen? ⟨w.heap.size, 3, none⟩ = false := by simp [go_sem]
  have HL := hid hA
  clear hA
  cases hg : givenB a b
  · rcases givenB_false hg with h1 | ⟨h1, h2⟩
    · have H1 := hid h1
      clear hg h1 hn h
      go_enter Try.func47, Try.ntmps47
      go_wp2_with fail
      refine (isFactor_as _ _ _ H1.out).mono ?_
      rintro e w' ⟨rfl, rfl⟩
      go_wp2_with fail
      refine bodyPost_ret (v := .tuple #[.agg #[.int .i64 0, .int .i64 0, .int .i64 0, .int .i64 0], .bool false]) ?_ rfl ⟨rfl, HL.out⟩
      rw [results_cell_tmp rfl]
      go_simp
    · have H1 := hid h1
      have H2 := hid h2
      clear hg h1 h2 hn h
      go_enter Try.func47, Try.ntmps47
      go_wp2_with fail
      refine (isFactor_as _ _ _ H1.out).mono ?_
      rintro e w' ⟨rfl, rfl⟩
      go_wp2_with fail
      refine (isRest_as _ _ _ H2.out).mono ?_
      rintro e w' ⟨rfl, rfl⟩
      go_wp2_with fail
      refine bodyPost_ret (v := .tuple #[.agg #[.int .i64 0, .int .i64 0, .int .i64 0, .int .i64 0], .bool false]) ?_ rfl ⟨rfl, HL.out⟩
      rw [results_cell_tmp rfl]
      go_simp
  · rw [hg, Bool.true_and] at hn
    have H1 := hid (givenB_true hg).1
    have H2 := hid (givenB_true hg).2
    have HG := hid (givenB_iff.1 hg)
    have HHN := hid hn
    cases hf : (lenB zs && fallB 100000 zs)
    · have H3 := hid hf
      clear hg hn h hf HHN
      go_enter Try.func47, Try.ntmps47
      go_wp2_with fail
      refine (isFactor_as _ _ _ H1.out).mono ?_
      rintro e w' ⟨rfl, rfl⟩
      go_wp2_with fail
      refine (isRest_as _ _ _ H2.out).mono ?_
      rintro e w' ⟨rfl, rfl⟩
      go_wp2_with fail
      refine (areFallingParts_as _ zs _ _ H3.out H.out).mono ?_
      rintro e w' ⟨rfl, rfl⟩
      go_wp2_with fail
      refine bodyPost_ret (v := .tuple #[.agg #[.int .i64 0, .int .i64 0, .int .i64 0, .int .i64 0], .bool false]) ?_ rfl ⟨rfl, HL.out⟩
      rw [results_cell_tmp rfl]
      go_simp
    · have H3 := hid hf
      have hf2 := hf
      rw [Bool.and_eq_true] at hf2
      obtain ⟨hlb, hfb⟩ := hf2
      have h5 := fallB_in5 (by omega) hfb
      obtain ⟨x, y, z, t, rfl, hq⟩ := q4_of h5 (lenB_iff.1 hlb)
      have HFL := hid (show ¬ facL (sqs (qL x y z t) - b) (qL x y z t) = a from fun e => by
        have h1 := (facL_eq (qL x y z t) a (by have := HG.out; omega) _ h5).1 e
        rw [solB, hlb, hfb] at hn
        simp at hn
        omega)
      refine (solutionOf_at _ x y z t a b w H1.out H2.out hf hq h).mono ?_
      rintro e w' (⟨hd, _⟩ | ⟨_, hno⟩)
      · exact absurd (of_decide_eq_true hd) HFL.out
      · exact hno
theorem solutionOf_yes (v : Value) (x y z t : Int) (a b : Int) (w : World) (hs : Sol (qL x y z t) a b) (hq : Q4 x y z t) (h : Ints w v (qL x y z t)) :
    Calls Try.prog 47 #[v, .int .i64 a, .int .i64 b] w fun e w' => YesSol w x y z t e w' := by
  have hg := givenB_true hs.given
  have h1 : facL (sqs (qL x y z t) - b) (qL x y z t) = a := (facL_eq _ a (by have := hs.ha; omega) _ hs.in5).2 (by have := hs.he; omega)
  refine (solutionOf_at v x y z t a b w hg.1 hg.2 (by rw [lenB_iff.2 hs.hl, hs.hf]; rfl) hq h).mono ?_
  rintro e w' (⟨_, hy⟩ | ⟨hd, _⟩)
  · exact hy
  · exact absurd h1 (of_decide_eq_false hd)


theorem Sol.good {zs : List Int} {a b : Int} (h : (givenB a b && solB zs a b) = true) : Sol zs a b := by
  rw [Bool.and_eq_true] at h; exact Sol.of h.1 h.2
theorem Sol.q4 {zs : List Int} {a b : Int} (h : Sol zs a b) : ∃ x y z t, zs = qL x y z t ∧ Q4 x y z t := q4_of h.in5 h.hl

set_option maxRecDepth 20000 in
set_option maxHeartbeats 2000000 in
theorem implIsHurwitz_any (v : Value) (zs : List Int) (a b : Int) (w : World) (h : Ints w v zs) :
    Calls Try.prog 59 #[v, .int .i64 a, .int .i64 b] w fun e w' => BoolAns w (isHuAns zs a b) e w' := by
  obtain ⟨p, cap, rfl, hl, _⟩ := id h
  have H := hid h
  clear h
  cases hs : (givenB a b && solB zs a b)
  · have HS := hid hs
    cases hg : givenB a b
    · have HA := hid (show isHuAns zs a b = none by unfold isHuAns; rw [hg]; rfl)
      rcases givenB_false hg with h1 | ⟨h1, h2⟩
      · have H1 := hid h1
        clear hg h1 hs
        go_enter Try.func59, Try.ntmps59
        go_wp2_with fail
        refine (solutionOf_no _ zs a b _ HS.out H.out).mono ?_
        rintro e w1 ⟨rfl, hL⟩
        have HL := hid (hL.trans (Later.alloc w1 (.cells #[.int .i64 0, .int .i64 0, .int .i64 0, .int .i64 0] 69)))
        clear hL
        go_wp2_with fail
        refine (isFactor_as _ _ _ H1.out).mono ?_
        rintro e w' ⟨rfl, rfl⟩
        go_wp2_with fail
        go_ret2
        exact ⟨by rw [HA.out]; rfl, HL.out⟩
      · have H1 := hid h1
        have H2 := hid h2
        clear hg h1 h2 hs
        go_enter Try.func59, Try.ntmps59
        go_wp2_with fail
        refine (solutionOf_no _ zs a b _ HS.out H.out).mono ?_
        rintro e w1 ⟨rfl, hL⟩
        have HL := hid (hL.trans (Later.alloc w1 (.cells #[.int .i64 0, .int .i64 0, .int .i64 0, .int .i64 0] 69)))
        clear hL
        go_wp2_with fail
        refine (isFactor_as _ _ _ H1.out).mono ?_
        rintro e w' ⟨rfl, rfl⟩
        go_wp2_with fail
        refine (isRest_as _ _ _ H2.out).mono ?_
        rintro e w' ⟨rfl, rfl⟩
        go_wp2_with fail
        go_ret2
        exact ⟨by rw [HA.out]; rfl, HL.out⟩
    · have hso : solB zs a b = false := by rw [hg, Bool.true_and] at hs; exact hs
      have HA := hid (show isHuAns zs a b = some false by unfold isHuAns; rw [hg, hso]; rfl)
      have H1 := hid (givenB_true hg).1
      have H2 := hid (givenB_true hg).2
      clear hg hs hso
      go_enter Try.func59, Try.ntmps59
      go_wp2_with fail
      refine (solutionOf_no _ zs a b _ HS.out H.out).mono ?_
      rintro e w1 ⟨rfl, hL⟩
      have HL := hid (hL.trans (Later.alloc w1 (.cells #[.int .i64 0, .int .i64 0, .int .i64 0, .int .i64 0] 69)))
      clear hL
      go_wp2_with fail
      refine (isFactor_as _ _ _ H1.out).mono ?_
      rintro e w' ⟨rfl, rfl⟩
      go_wp2_with fail
      refine (isRest_as _ _ _ H2.out).mono ?_
      rintro e w' ⟨rfl, rfl⟩
      go_wp2_with fail
      go_ret2
      exact ⟨by rw [HA.out]; rfl, HL.out⟩
  · have hS := Sol.good hs
    have HA := hid (show isHuAns zs a b = some true by unfold isHuAns; rw [hS.given, hS.sol]; rfl)
    have H1 := hid (givenB_true hS.given).1
    have H2 := hid (givenB_true hS.given).2
    have HS := hid hS
    obtain ⟨x, y, z, t, rfl, hq⟩ := hS.q4
    have HQ := hid hq
    clear hs hS hq
    go_enter Try.func59, Try.ntmps59
    go_wp2_with fail
    refine (solutionOf_yes _ x y z t a b _ HS.out HQ.out H.out).mono ?_
    rintro e w1 ⟨rfl, hL⟩
    have HL := hid hL
    clear hL
    go_wp2_with fail
    refine (isFactor_as _ _ _ H1.out).mono ?_
    rintro e w' ⟨rfl, rfl⟩
    go_wp2_with fail
    refine (isRest_as _ _ _ H2.out).mono ?_
    rintro e w' ⟨rfl, rfl⟩
    go_wp2_with fail
    go_ret2
    exact ⟨by rw [HA.out]; rfl, HL.out.trans (Later.alloc _ _)⟩
end Go.Proofs.Ytoaopmafokoaoaa
