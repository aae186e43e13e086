/- Right triples in the program: the triple of a word. -/
import Derived.Test.YtegpbmbkehaclaaRiG
namespace Go.Proofs.Ytegpbmbkehaclaa
open Go.RowKit

def wordR (zs : List Int) (n : Nat) : Bool := decide (zs.length ≤ 40) && zs.all (within 0 ((n : Int) - 1))
theorem within_ltR {n : Nat} {x : Int} : within 0 ((n : Int) - 1) x = (decide (0 ≤ x) && decide (x < (n : Int))) := by
  unfold within
  congr 1
  exact decide_eq_decide.2 (by omega)
def byWordAns (C : Int → Int → Int → Int × Int) (zs : List Int) : Option (List Int) :=
  if wordR zs 3 = true then (foldP C zs 2 1).map fun p => sidesL p.1 p.2 else none
theorem foldP_drop (C : Int → Int → Int → Int × Int) (zs : List Int) (k : Nat) (x y : Int) (hk : k < zs.length) :
    foldP C (zs.drop k) x y = if pairB (C x y (zs.getD k 0)).1 (C x y (zs.getD k 0)).2 = true then foldP C (zs.drop (k + 1)) (C x y (zs.getD k 0)).1 (C x y (zs.getD k 0)).2 else none := by
  rw [List.drop_eq_getElem_cons hk, getD_at zs k hk]
  rfl
theorem wordR_at {zs : List Int} (h : wordR zs 3 = true) (k : Nat) (hk : k < zs.length) : zs.getD k 0 = 0 ∨ zs.getD k 0 = 1 ∨ zs.getD k 0 = 2 := by
  unfold wordR at h
  rw [Bool.and_eq_true, List.all_eq_true] at h
  have := h.2 zs[k] (List.getElem_mem hk)
  simp only [within, Bool.and_eq_true, decide_eq_true_eq] at this
  rw [getD_at zs k hk]
  omega
theorem Box5.keep {w w' : World} {b : Nat} {v0 v1 v2 v3 v4 : Value} (h : Box5 w b v0 v1 v2 v3 v4) (k : w'.heap[b]? = w.heap[b]?) : Box5 w' b v0 v1 v2 v3 v4 :=
  ⟨⟨cell_keep h.arr.c0 k, cell_keep h.arr.c1 k, cell_keep h.arr.c2 k, cell_keep h.arr.c3 k, cell_keep h.arr.c4 k⟩, (World.frozen?_of_block k).trans h.f0, (World.frozen?_of_block k).trans h.f1, (World.frozen?_of_block k).trans h.f2, (World.frozen?_of_block k).trans h.f3, (World.frozen?_of_block k).trans h.f4⟩
theorem set5_cell (w : World) (b : Nat) (u0 u1 u2 u3 u4 : Value) (a : Addr) (v : Value) (h : a.block ≠ b) (hc : w.cell? a = some v) :
    (((((w.setCell ⟨b, 0, none⟩ u0).setCell ⟨b, 1, none⟩ u1).setCell ⟨b, 2, none⟩ u2).setCell ⟨b, 3, none⟩ u3).setCell ⟨b, 4, none⟩ u4).cell? a = some v := by
  have o : ∀ (w : World) (j : Nat) (u : Value), w.cell? a = some v → (w.setCell ⟨b, j, none⟩ u).cell? a = some v := fun w j u hc => (World.cell?_setCell_other _ _ _ _ (by first | exact fun e => h (congrArg Addr.block e) | exact fun e => h (congrArg Addr.block e).symm)).trans hc
  exact o _ _ _ (o _ _ _ (o _ _ _ (o _ _ _ (o _ _ _ hc))))
theorem tripV_yes {m n : Int} (h : pairB m n = true) : tripV m n = .tuple #[.agg #[.int .i64 m, .int .i64 n, .int .i64 (m * m - n * n), .int .i64 (2 * m * n), .int .i64 (m * m + n * n)], .bool true] := by unfold tripV; rw [if_pos h]; rfl
theorem tripV_no {m n : Int} (h : pairB m n = false) : tripV m n = .tuple #[.agg #[.int .i64 0, .int .i64 0, .int .i64 0, .int .i64 0, .int .i64 0], .bool false] := by unfold tripV; rw [h]; rfl

end Go.Proofs.Ytegpbmbkehaclaa
