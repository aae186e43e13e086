/- Slices of circles: comparisons, marks. -/
import Derived.Test.YtoaopmafokoaoaaCiB
namespace Go.Proofs.Ytoaopmafokoaoaa
open Go.RowKit

theorem Cis.at {w : World} {a : Option Addr} {n cap : Nat} {L : List Ci4} (h : Cis w (.slice a n cap) L) (k : Nat) (hk : k < L.length) :
    ∃ g, a = some ⟨g, 0, none⟩ ∧ w.cell? ⟨g, k * 4, none⟩ = some (.int .i64 (L.getD k c00).1) ∧ w.cell? ⟨g, k * 4 + 1, none⟩ = some (.int .i64 (L.getD k c00).2.1) ∧ w.cell? ⟨g, k * 4 + 2, none⟩ = some (.int .i64 (L.getD k c00).2.2.1) ∧ w.cell? ⟨g, k * 4 + 3, none⟩ = some (.int .i64 (L.getD k c00).2.2.2) := by
  obtain ⟨a', cap', e, _, _, hc⟩ := h
  simp only [Value.slice.injEq] at e
  obtain ⟨rfl, _, _⟩ := e
  exact hc k hk
/-! ### marks -/
def ciMark (k : Int) (i : Nat) : Ci4 := (k + 4 * (i : Int), k + 4 * (i : Int) + 1, k + 4 * (i : Int) + 2, k + 4 * (i : Int) + 3)
def ciMarks (k : Int) (n : Nat) : List Ci4 := (List.range n).map (ciMark k)
theorem ciMarks_len (k : Int) (n : Nat) : (ciMarks k n).length = n := by simp [ciMarks]
theorem ciMarks_at (k : Int) (n i : Nat) (h : i < n) : (ciMarks k n).getD i c00 = ciMark k i := by simp [ciMarks, h]
def markTo (k : Int) (L : List Ci4) (j : Nat) : List Ci4 := ciMarks k j ++ L.drop j
theorem markTo_len (k : Int) (L : List Ci4) (j : Nat) (h : j ≤ L.length) : (markTo k L j).length = L.length := by
  unfold markTo
  rw [List.length_append, ciMarks_len, List.length_drop]
  omega
theorem markTo_step (k : Int) (L : List Ci4) (j : Nat) (h : j < L.length) : (markTo k L j).set j (ciMark k j) = markTo k L (j + 1) := by
  unfold markTo
  rw [List.set_append_right _ _ (by rw [ciMarks_len]; exact Nat.le_refl _), ciMarks_len, Nat.sub_self, List.drop_eq_getElem_cons h, List.set_cons_zero]
  unfold ciMarks
  rw [List.range_succ, List.map_append, List.append_assoc]
  rfl
theorem markTo_all (k : Int) (L : List Ci4) : markTo k L L.length = ciMarks k L.length := by simp [markTo]
theorem OwnCis.tok {lo hi : Nat} {w : World} {v : Value} {L : List Ci4} (h : OwnCis lo hi w v L) {g n cap : Nat} (e : v = .slice (some ⟨g, 0, none⟩) n cap) : g < hi ∧ lo ≤ g := by
  subst e
  exact ⟨h.2 g rfl, (h.1.lt g rfl).1⟩

theorem OwnCis.blk {lo hi : Nat} {w : World} {v : Value} {L : List Ci4} (h : OwnCis lo hi w v L) {b : Nat} (hb : v.ownBlock = some b) : lo ≤ b ∧ b < hi := ⟨(h.1.lt b hb).1, h.2 b hb⟩
def MarkResC (lo hi : Nat) (w : World) (v : Value) (n : Nat) (k : Int) (e : Ending) (w' : World) : Prop :=
  e = .returned (.int .i64 (k + 4 * (n : Int))) ∧ OwnCis lo hi w' v (ciMarks k n) ∧ Wrote (fun b => v.ownBlock = some b) w w'
end Go.Proofs.Ytoaopmafokoaoaa
