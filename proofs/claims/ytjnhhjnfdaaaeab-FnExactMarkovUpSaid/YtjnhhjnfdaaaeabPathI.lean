/- The way down of a triple, in the program. -/
import Derived.Test.YtjnhhjnfdaaaeabTris
namespace Go.Proofs.Ytjnhhjnfdaaaeab
open Go.RowKit

def Box3 (w : World) (B : Nat) (a b c : Int) : Prop :=
  (w.cell? ⟨B, 0, none⟩ = some (.int .i64 a) ∧ w.cell? ⟨B, 1, none⟩ = some (.int .i64 b) ∧ w.cell? ⟨B, 2, none⟩ = some (.int .i64 c)) ∧
  w.frozen? ⟨B, 0, none⟩ = false ∧ w.frozen? ⟨B, 1, none⟩ = false ∧ w.frozen? ⟨B, 2, none⟩ = false
theorem Box3.later {w w' : World} {B : Nat} {a b c : Int} (h : Box3 w B a b c) (k : Later w w') : Box3 w' B a b c :=
  ⟨⟨k.cell h.1.1, k.cell h.1.2.1, k.cell h.1.2.2⟩, k.frozen h.1.1 h.2.1, k.frozen h.1.2.1 h.2.2.1, k.frozen h.1.2.2 h.2.2.2⟩
theorem Box3.keep {w w' : World} {B : Nat} {a b c : Int} (h : Box3 w B a b c) (k : w'.heap[B]? = w.heap[B]?) : Box3 w' B a b c :=
  ⟨⟨cell_keep h.1.1 k, cell_keep h.1.2.1 k, cell_keep h.1.2.2 k⟩, (World.frozen?_of_block k).trans h.2.1, (World.frozen?_of_block k).trans h.2.2.1, (World.frozen?_of_block k).trans h.2.2.2⟩
theorem Box3.lt {w : World} {B : Nat} {a b c : Int} (h : Box3 w B a b c) : B < w.heap.size := World.block_lt_of_cell? w ⟨B, 0, none⟩ h.1.1
theorem Box3.set {w : World} {B : Nat} {a b c : Int} (h : Box3 w B a b c) (p q r : Int) :
    Box3 (((w.setCell ⟨B, 0, none⟩ (.int .i64 p)).setCell ⟨B, 1, none⟩ (.int .i64 q)).setCell ⟨B, 2, none⟩ (.int .i64 r)) B p q r :=
  ⟨⟨(World.cell?_setCell_other _ _ _ _ (by simp)).trans ((World.cell?_setCell_other _ _ _ _ (by simp)).trans (World.cell?_setCell_same _ _ _ h.1.1)),
    (World.cell?_setCell_other _ _ _ _ (by simp)).trans (World.cell?_setCell_same _ _ _ ((World.cell?_setCell_other _ _ _ _ (by simp)).trans h.1.2.1)),
    World.cell?_setCell_same _ _ _ ((World.cell?_setCell_other _ _ _ _ (by simp)).trans ((World.cell?_setCell_other _ _ _ _ (by simp)).trans h.1.2.2))⟩,
   by rw [World.frozen?_setCell, World.frozen?_setCell, World.frozen?_setCell]; exact h.2.1, by rw [World.frozen?_setCell, World.frozen?_setCell, World.frozen?_setCell]; exact h.2.2.1, by rw [World.frozen?_setCell, World.frozen?_setCell, World.frozen?_setCell]; exact h.2.2.2⟩
theorem ownsRow_keep3 {w w' : World} {lo : Nat} {e : TypeId} {sz : Nat} {v : Value} {n : Nat} {xs : List Value} (h : w.ownsRow lo e sz v n xs)
    (k : ∀ b, v.ownBlock = some b → w'.heap[b]? = w.heap[b]?) : w'.ownsRow lo e sz v n xs := by
  refine ⟨h.1, ?_⟩
  rcases h.2 with hn | ⟨g, cap, cur, rfl, hb, hgg, rest⟩
  · exact .inl hn
  · exact .inr ⟨g, cap, cur, rfl, hb, (k g rfl).trans hgg, rest⟩
theorem OwnTris.later {lo : Nat} {w w' : World} {v : Value} {L : List Tr} (h : OwnTris lo w v L) (k : Later w w') : OwnTris lo w' v L :=
  ownsRow_keep3 h fun b hb => k.block b (h.lt b hb).2
theorem OwnTris.shape {lo : Nat} {w : World} {v : Value} {L : List Tr} (h : OwnTris lo w v L) : ∃ a cap, v = .slice a L.length cap ∧ L.length ≤ cap := by
  rcases h.2 with ⟨rfl, h0⟩ | ⟨g, cap, cur, rfl, hb, hg, hn, _⟩
  · exact ⟨none, 0, by rw [h0], by omega⟩
  · exact ⟨_, cap, rfl, by omega⟩
theorem OwnTris.one (w : World) (t : Tr) : OwnTris w.heap.size (w.alloc (.cells #[.int .i64 t.1, .int .i64 t.2.1, .int .i64 t.2.2] 59)) (.slice (some ⟨w.heap.size, 0, none⟩) 1 1) [t] := by
  have h := World.ownsRow_lit (e := 59) (size := 3) w #[.int .i64 t.1, .int .i64 t.2.1, .int .i64 t.2.2] 1 (Nat.le_refl _) (by unfold maxLen; omega) (by simp)
  simpa [OwnTris, trCells] using h
theorem OwnTris.base {lo lo' : Nat} {w : World} {v : Value} {L : List Tr} (h : OwnTris lo w v L) (hl : lo' ≤ lo) : OwnTris lo' w v L := by
  refine ⟨h.1, ?_⟩
  rcases h.2 with hn | ⟨g, cap, cur, rfl, hb, rest⟩
  · exact .inl hn
  · exact .inr ⟨g, cap, cur, rfl, Nat.le_trans hl hb, rest⟩
theorem moveL2_eq {x y z p q r : Int} (h : moveL x y z 2 = [p, q, r]) : p = nx x y z ∧ q = ny x y z ∧ r = nz x y z := by
  have h2 : [nx x y z, ny x y z, nz x y z] = [p, q, r] := h
  simp only [List.cons.injEq, and_true] at h2
  exact ⟨h2.1.symm, h2.2.1.symm, h2.2.2.symm⟩
theorem isRoot_T3 {x y z : Int} (h : T3 x y z) : isRoot3 x y z = decide (z = 1) := by
  obtain ⟨hx, hy, hz, hxy, hyz, _⟩ := h
  unfold isRoot3
  by_cases h1 : z = 1
  · rw [decide_eq_true h1, decide_eq_true (show x = 1 by omega), decide_eq_true (show y = 1 by omega)]; rfl
  · rw [decide_eq_false h1]; simp

set_option maxRecDepth 20000 in
set_option maxHeartbeats 4000000 in
theorem implMarkovPath_any (v : Value) (zs : List Int) (w : World) (h : Ints w v zs) :
    Calls Try.prog 20 #[v] w fun e w' => RowsAns w (pathAns zs) e w' := by
  cases hg : mkGoodW zs
  · have HA := hid (show pathAns zs = none by unfold pathAns; rw [if_neg (by simp [hg])])
    have HG := hid hg
    have H := hid h
    obtain ⟨a, cap, rfl, hl, _⟩ := id h
    clear hg h
    go_enter Try.func20, Try.ntmps20
    go_wp2_with fail
    refine (implIsMarkov_any _ zs _ H.out).mono ?_
    rintro e w' ⟨rfl, hL⟩
    rw [HG.out]
    have HL := hid hL
    clear hL
    go_wp2_with fail
    go_ret2
    rw [HA.out]
    exact ⟨_, rfl, OwnRows.none_ _ _ _, HL.out⟩
  · obtain ⟨x, y, z, rfl, hT⟩ := mkGoodW_T3 hg
    obtain ⟨x', y', z', ad, cap, e1, rfl, c0, c1, c2⟩ := h.three rfl
    simp only [List.cons.injEq, and_true] at e1
    obtain ⟨rfl, rfl, rfl⟩ := e1
    have HA := hid (show pathAns [x, y, z] = some (pathG x y z) by unfold pathAns; rw [if_pos hg]; rfl)
    have HG := hid hg
    have H := hid h
    have HT := hid hT
    have ha := arrayAt3 ad cap
    obtain ⟨i0, hi, hz0, hz1, hz2⟩ := info_parts Try.infoTri
    clear hg h hT
    go_enter Try.func20, Try.ntmps20
    go_wp2_with fail
    refine (implIsMarkov_any (.slice (some ad) 3 cap) [x, y, z] _ H.out).mono ?_
    rintro e w1 ⟨rfl, hL⟩
    rw [HG.out]
    replace c0 := hL.cell c0
    replace c1 := hL.cell c1
    replace c2 := hL.cell c2
    have HL := hid hL
    clear hL
    go_wp2_with fail
    have HB := hid (show Box3 ((w1.alloc (.cells #[.int .i64 x, .int .i64 y, .int .i64 z] 59)).alloc (.cells #[.int .i64 x, .int .i64 y, .int .i64 z] 59)) w1.heap.size x y z from ⟨⟨by simp [go_sem], by simp [go_sem], by simp [go_sem]⟩, by simp [go_sem], by simp [go_sem], by simp [go_sem]⟩)
    have hO := OwnTris.one (w1.alloc (.cells #[.int .i64 x, .int .i64 y, .int .i64 z] 59)) (x, y, z)
    rw [show (w1.alloc (.cells #[.int .i64 x, .int .i64 y, .int .i64 z] 59)).heap.size = w1.heap.size + 1 by simp] at hO
    have HO := hid (show OwnTris (w1.heap.size + 1) ((w1.alloc (.cells #[.int .i64 x, .int .i64 y, .int .i64 z] 59)).alloc (.cells #[.int .i64 x, .int .i64 y, .int .i64 z] 59)) (.slice (some ⟨w1.heap.size + 1, 0, none⟩) 1 1) [(x, y, z)] from hO)
    have HL2 := hid ((HL.out.trans (Later.alloc w1 (.cells #[.int .i64 x, .int .i64 y, .int .i64 z] 59))).trans (Later.alloc _ (.cells #[.int .i64 x, .int .i64 y, .int .i64 z] 59)))
    have hwB := hid (show w.heap.size ≤ w1.heap.size from HL.out.size)
    obtain ⟨B, hB⟩ : ∃ B, w1.heap.size = B := ⟨_, rfl⟩
    rw [hB] at HB HO hwB ⊢
    generalize ((w1.alloc (.cells #[.int .i64 x, .int .i64 y, .int .i64 z] 59)).alloc (.cells #[.int .i64 x, .int .i64 y, .int .i64 z] 59)) = w2 at HB HO HL2 ⊢
    clear hB hO c0 c1 c2 HL
    go_loopw [5] (fun o wr => ∃ (a b c : Int) (L : List Tr), T3 a b c ∧ Box3 wr B a b c ∧ OwnTris (B + 1) wr o L ∧ L.map trL ++ tailG a b c = pathG x y z ∧ L.length + c.toNat ≤ 1 + z.toNat ∧ Later w wr)
      (fun o _ => z.toNat + 2 - lenOf o)
    case atStart => exact ⟨x, y, z, [(x, y, z)], HT.out, HB.out, HO.out, rfl, by simp, HL2.out⟩
    case round =>
      clear HB HO HL2
      obtain ⟨a, b, c, L, hT, hB, hO, hR, hlen, hL⟩ := hrel
      have HO := hid hO
      have HR := hid hR
      have HL := hid hL
      have HB := hid hB
      have HT3 := hid hT
      obtain ⟨o1, o2, rfl, hoc⟩ := hO.shape
      have hll : L.length ≤ 1000000001 := by have := HT.out.2.2.1.2; omega
      obtain ⟨⟨c0, c1, c2⟩, f0, f1, f2⟩ := hB
      clear hO hR hL
      go_wp2_with fail
      refine (isMarkovRoot_any a b c _).mono ?_
      rintro e w3 ⟨rfl, hL3⟩
      rw [isRoot_T3 hT]
      by_cases hc1 : c = 1
      · have HE := hid (show L.map trL = pathG x y z by have := HR.out; rw [hc1, tailG_one, List.append_nil] at this; exact this)
        have hd : decide (c = 1) = true := decide_eq_true hc1
        have HTr := hid ((HO.out.tris (by omega)).later hL3)
        have HL3 := hid (HL.out.trans hL3)
        rw [hd]
        clear hT hc1 hL3 c0 c1 c2 f0 f1 f2 hd
        go_wp2_with fail
        refine (listsOf_any _ L _ (by omega) HTr.out).mono ?_
        rintro e w5 ⟨v5, rfl, ho5, hL5⟩
        obtain ⟨a5, c5, rfl, _⟩ := ho5.shape
        have HO5 := hid (ho5.wide HL3.out.size (Nat.le_refl _))
        have HL5 := hid (HL3.out.trans hL5)
        rw [HE.out] at HO5 ⊢
        clear ho5 hL5
        go_wp2_with fail
        go_ret2
        rw [HA.out]
        exact ⟨_, rfl, HO5.out, HL5.out⟩
      · have HN := hid (next_T3 hT hc1)
        have HS := hid (tailG_step hT hc1)
        have hd : decide (c = 1) = false := decide_eq_false hc1
        have HB3 := hid (HB.out.later hL3)
        have HO3 := hid (HO.out.later hL3)
        have HL3 := hid (HL.out.trans hL3)
        rw [hd]
        replace c0 := hL3.cell c0
        replace c1 := hL3.cell c1
        replace c2 := hL3.cell c2
        clear f0 f1 f2 hc1 hL3 hd
        go_wp2_with fail
        refine (moved_any a b c 2 (.inr (.inr rfl)) _ (Cnt0.of hT.1) (Cnt0.of hT.2.1) (Cnt0.of hT.2.2.1)).mono ?_
        rintro e w4 ⟨p, q, r, hpqr, rfl, hL4⟩
        obtain ⟨rfl, rfl, rfl⟩ := moveL2_eq hpqr
        have HB4 := hid (HB3.out.later hL4)
        have HO4 := hid (HO3.out.later hL4)
        have HL4 := hid (HL3.out.trans hL4)
        obtain ⟨⟨d0, d1, d2⟩, g0, g1, g2⟩ := HB4.out
        clear hL4 c0 c1 c2 hpqr hT
        go_upto_region 7 with fail
        have HB5 := hid (HB4.out.set (nx a b c) (ny a b c) (nz a b c))
        have HO5 := hid (show OwnTris (B + 1) (((w4.setCell ⟨B, 0, none⟩ (.int .i64 (nx a b c))).setCell ⟨B, 1, none⟩ (.int .i64 (ny a b c))).setCell ⟨B, 2, none⟩ (.int .i64 (nz a b c))) _ L from ownsRow_keep3 HO4.out fun bk hbk => by
          have h1 := (HO4.out.lt bk hbk).1
          rw [heap_setCell_other _ _ bk _ (by simp; omega), heap_setCell_other _ _ bk _ (by simp; omega), heap_setCell_other _ _ bk _ (by simp; omega)])
        have HL5 := hid (show Later w (((w4.setCell ⟨B, 0, none⟩ (.int .i64 (nx a b c))).setCell ⟨B, 1, none⟩ (.int .i64 (ny a b c))).setCell ⟨B, 2, none⟩ (.int .i64 (nz a b c))) from Below.setCell (Below.setCell (Below.setCell HL4.out hwB.out _) hwB.out _) hwB.out _)
        generalize (((w4.setCell ⟨B, 0, none⟩ (.int .i64 (nx a b c))).setCell ⟨B, 1, none⟩ (.int .i64 (ny a b c))).setCell ⟨B, 2, none⟩ (.int .i64 (nz a b c))) = w5 at HB5 HO5 HL5 ⊢
        clear d0 d1 d2 g0 g1 g2
        obtain ⟨⟨d0, d1, d2⟩, _, _, _⟩ := HB5.out
        have hA := Later.alloc w5 (.cells #[.int .i64 (nx a b c), .int .i64 (ny a b c), .int .i64 (nz a b c)] 59)
        have HO6 := hid (HO5.out.later hA)
        have HB6 := hid (HB5.out.later hA)
        have HL6 := hid (HL5.out.trans hA)
        have hB5 := HB5.out.lt
        clear hA
        go_wp2_with (at_builtin; refine wpList_append_lies _ (by rfl) _ _ _ (by rfl) (B + 1) 59 i0 (.agg #[.int .i64 0, .int .i64 0, .int .i64 0]) 3 24 Try.underlying60 hi hz0 hz1 hz2 rfl (by omega) _ L.length (trCells L) (by rfl) (by exact HO6.out) ⟨w5.heap.size, 0, none⟩ 1 1 [.int .i64 (nx a b c), .int .i64 (ny a b c), .int .i64 (nz a b c)] (by rfl) (by rfl) (World.news_of_block (cs := #[.int .i64 (nx a b c), .int .i64 (ny a b c), .int .i64 (nz a b c)]) (t := 59) (fr := (0, 0)) (heap_alloc_new w5 _)) (by simp [Value.oneCell']) (by omega) (by unfold maxLen; omega) (by omega) (by simp; omega) (w5.heap.size + 1) (by simp) ?_)
        intro g cap1 w7 hown7 hgrow hat hglt
        have HO7 := hid (show OwnTris (B + 1) w7 (.slice (some ⟨g, 0, none⟩) (L.length + 1) cap1) (L ++ [(nx a b c, ny a b c, nz a b c)]) by
          unfold OwnTris; rw [trCells_snoc, List.length_append]; exact hown7)
        have HB7 := hid (HB6.out.keep (hgrow.block B (by simp; omega) (fun e => by have := (HO6.out.lt B e.symm).1; omega)))
        have HL7 := hid (show Later w w7 from HL6.out.grown hgrow (by have := HL5.out.size; simp; omega) (fun b' hb' => by have := (HO6.out.lt b' hb').1; have := hwB.out; omega))
        clear hown7 hgrow hat d0 d1 d2
        go_wp2_with fail
        go_roundw
        case rel => exact ⟨_, _, _, _, HN.out.1, HB7.out, HO7.out, by rw [List.map_append, List.append_assoc]; show List.map trL L ++ ([nx a b c, ny a b c, nz a b c] :: tailG _ _ _) = _; rw [← HS.out]; exact HR.out, by have := HN.out.2; have := HN.out.1.2.2.1.1; simp; omega, HL7.out⟩
        case measure => simp [lenOf]; omega
end Go.Proofs.Ytjnhhjnfdaaaeab
