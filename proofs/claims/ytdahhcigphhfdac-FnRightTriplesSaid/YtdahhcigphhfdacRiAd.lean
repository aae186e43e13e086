/- Rows of right triples in the program: cells, SortFunc. -/
import Derived.Test.YtdahhcigphhfdacRiAc
import Derived.Test.YtdahhcigphhfdacLaySortR
import Derived.Shelf.SlSortCmp.NoneTotal
namespace Go.Proofs.Ytdahhcigphhfdac
open Go.RowKit Go.Sort

abbrev VP := {p : Rt // Pair p.1 p.2}
instance : Inhabited VP := ⟨⟨(2, 1), pair21⟩⟩
def rtVp (p : VP) : List Value := rtV p.1.1 p.1.2
def rtCells (L : List VP) : List Value := L.flatMap rtVp
theorem rtCells_len (L : List VP) : (rtCells L).length = L.length * 5 := by
  induction L with
  | nil => rfl
  | cons a L ih =>
    have e : rtCells (a :: L) = rtVp a ++ rtCells L := rfl
    rw [e, List.length_append, ih, List.length_cons]
    have : (rtVp a).length = 5 := rfl
    omega
theorem rtCells_snoc (L : List VP) (p : VP) : rtCells (L ++ [p]) = rtCells L ++ rtVp p := by simp [rtCells]
theorem rtCells_at (L : List VP) : ∀ (i : Nat) (h : i < L.length) (j : Nat), j < 5 → (rtCells L)[i * 5 + j]? = (rtVp L[i])[j]? := by
  induction L with
  | nil => intro i h; simp at h
  | cons a L ih =>
    intro i h j hj
    have ha : (rtVp a).length = 5 := rfl
    have e0 : rtCells (a :: L) = rtVp a ++ rtCells L := rfl
    rw [e0]
    cases i with
    | zero => rw [Nat.zero_mul, Nat.zero_add, List.getElem?_append_left (by rw [ha]; exact hj)]; rfl
    | succ i =>
      have e : (i + 1) * 5 + j = 5 + (i * 5 + j) := by omega
      rw [e, List.getElem?_append_right (by rw [ha]; omega), ha, show 5 + (i * 5 + j) - 5 = i * 5 + j by omega]
      exact ih i (by simpa using h) j hj
theorem flat_rts (L : List VP) : (flatK rtVp 5 L.toArray).toList = rtCells L := by
  apply List.ext_getElem?
  intro t
  by_cases ht : t < L.length * 5
  · have hi : t / 5 < L.length := by omega
    have hat := rtCells_at L (t / 5) hi (t % 5) (by omega)
    rw [show t / 5 * 5 + t % 5 = t by omega] at hat
    have e1 : (flatK rtVp 5 L.toArray).toList[t]? = some ((rtVp L[t / 5])[t % 5]!) := by
      rw [Array.getElem?_toList, Array.getElem?_eq_getElem (by simpa using ht)]
      simp [flatK, hi]
    have hl : t % 5 < (rtVp L[t / 5]).length := by have : (rtVp L[t / 5]).length = 5 := rfl; omega
    rw [e1, hat, List.getElem?_eq_getElem hl, getElem!_pos (rtVp L[t / 5]) (t % 5) hl]
  · rw [List.getElem?_eq_none (by simpa using ht), List.getElem?_eq_none (by rw [rtCells_len]; omega)]
def OwnRts (lo : Nat) (w : World) (v : Value) (L : List VP) : Prop := w.ownsRow lo 69 5 v L.length (rtCells L)
theorem ownsRow_keepA {w w' : World} {lo : Nat} {e : TypeId} {sz : Nat} {v : Value} {n : Nat} {xs : List Value} (h : w.ownsRow lo e sz v n xs)
    (k : ∀ b, v.ownBlock = some b → w'.heap[b]? = w.heap[b]?) : w'.ownsRow lo e sz v n xs := by
  refine ⟨h.1, ?_⟩
  rcases h.2 with hn | ⟨g, cap, cur, rfl, hb, hgg, rest⟩
  · exact .inl hn
  · exact .inr ⟨g, cap, cur, rfl, hb, (k g rfl).trans hgg, rest⟩
theorem OwnRts.later {lo : Nat} {w w' : World} {v : Value} {L : List VP} (h : OwnRts lo w v L) (k : Later w w') : OwnRts lo w' v L :=
  ownsRow_keepA h fun b hb => k.block b (h.lt b hb).2
theorem OwnRts.holds {lo : Nat} {w : World} {g cap : Nat} {L : List VP} (h : OwnRts lo w (.slice (some ⟨g, 0, none⟩) L.length cap) L) : HoldsK rtVp 5 w g 0 L.toArray := by
  intro j hj
  have hj' : j < L.length * 5 := by simpa using hj
  have h' : w.ownsRow lo 69 5 (.slice (some ⟨g, 0, none⟩) L.length cap) L.length (rtCells L) := h
  refine ⟨?_, by rw [Nat.zero_add]; exact h'.frozenAt j⟩
  rw [Nat.zero_add, h'.cellAt j hj', ← flat_rts, Array.getElem?_toList, Array.getElem?_eq_getElem (by simpa using hj)]
  show some _ = some ((flatK rtVp 5 L.toArray)[j]!)
  rw [getElem!_pos (flatK rtVp 5 L.toArray) j hj]
theorem OwnRts.putK {lo : Nat} {w : World} {g cap q : Nat} {L M : List VP} (h : OwnRts lo w (.slice (some ⟨g, 0, none⟩) L.length cap) L) (hl : M.length = L.length) :
    OwnRts lo (putRowK rtVp 5 (Sort.ahead w q) g 0 M.toArray) (.slice (some ⟨g, 0, none⟩) L.length cap) M ∧ w.grownBy (putRowK rtVp 5 (Sort.ahead w q) g 0 M.toArray) (some g) := by
  refine ⟨?_, rfl, rfl, rfl, by simp [putRowK, putRow, mapBlock, Sort.ahead], fun k hk hne => ?_⟩
  · rcases h.2 with ⟨e0, _⟩ | ⟨g', cap', cur, e0, hb, hg, hn, hm, hs, ht⟩
    · cases e0
    · injection e0 with e1 _ e3
      injection e1 with e1
      injection e1 with e1
      subst e1; subst e3
      unfold OwnRts
      rw [hl]
      refine ⟨by rw [rtCells_len, hl], .inr ⟨g, cap, putCells id 0 (flatK rtVp 5 M.toArray) cur, rfl, hb, ?_, hn, hm, by simpa [putCells] using hs, ?_⟩⟩
      · simp [putRowK, putRow, mapBlock, Sort.ahead, Array.getElem?_modify, hg, onCells]
      · rw [← flat_rts]
        apply List.ext_getElem?
        intro j
        rw [List.getElem?_take, Array.getElem?_toList, Array.getElem?_toList]
        by_cases hj : j < L.length * 5
        · have hjc : j < cur.size := by omega
          have hjf : j < (flatK rtVp 5 M.toArray).size := by simp [hl]; exact hj
          simp only [if_pos hj, putCells, Array.getElem?_mapIdx, Array.getElem?_eq_getElem hjc, Option.map_some]
          rw [if_pos (by omega), Array.getElem?_eq_getElem hjf]
          simp only [Nat.sub_zero, id]
          rw [getElem!_pos (flatK rtVp 5 M.toArray) j hjf]
        · rw [if_neg hj, Array.getElem?_eq_none (by simp [hl]; omega)]
  · have : g ≠ k := fun e => hne (by rw [e])
    simp [putRowK, putRow, mapBlock, Sort.ahead, Array.getElem?_modify, this]

def cmpVp (p q : VP) : Int := cmpRt p.1 q.1
theorem cmpI_neg {x y : Int} : cmpI x y < 0 ↔ x < y := by
  unfold cmpI
  by_cases h : x < y
  · rw [if_pos h]; omega
  · rw [if_neg h]; by_cases h2 : y < x
    · rw [if_pos h2]; omega
    · rw [if_neg h2]; omega
theorem cmpI_same {x y : Int} : cmpI x y = 0 ↔ x = y := by
  unfold cmpI
  by_cases h : x < y
  · rw [if_pos h]; omega
  · rw [if_neg h]; by_cases h2 : y < x
    · rw [if_pos h2]; omega
    · rw [if_neg h2]; omega
theorem ltVp (p q : VP) : ltOf cmpVp p q = befR p.1 q.1 := by
  have h1 := @cmpI_neg (rtZ p.1) (rtZ q.1)
  have h2 := @cmpI_neg (rtX p.1) (rtX q.1)
  have z1 := @cmpI_same (rtZ p.1) (rtZ q.1)
  have e : ltOf cmpVp p q = true ↔ befR p.1 q.1 = true := by
    rw [befR_iff]
    unfold ltOf
    rw [decide_eq_true_iff]
    show orI _ _ < 0 ↔ _
    unfold orI
    split
    · rename_i h; omega
    · rename_i h; omega
  cases ha : ltOf cmpVp p q <;> cases hb : befR p.1 q.1
  · rfl
  · rw [ha, hb] at e; simp at e
  · rw [ha, hb] at e; simp at e
  · rfl
theorem swoVp : Go.Sort.SWO (ltOf cmpVp) := by
  refine ⟨fun x => ?_, fun x y z h1 h2 => ?_, fun x y z h1 h2 => ?_⟩
  · rw [ltVp, befR_not]; omega
  · rw [ltVp, befR_iff] at *; omega
  · rw [ltVp, befR_not] at *; omega
theorem totVp (x y : VP) (h1 : ltOf cmpVp x y = false) (h2 : ltOf cmpVp y x = false) : x = y := by
  rw [ltVp, befR_not] at h1 h2
  exact Subtype.ext (key_inj x.2 y.2 (by omega) (by omega))
def sortVp (L : List VP) : List VP := L.mergeSort fun x y => !(ltOf cmpVp) y x
end Go.Proofs.Ytdahhcigphhfdac
