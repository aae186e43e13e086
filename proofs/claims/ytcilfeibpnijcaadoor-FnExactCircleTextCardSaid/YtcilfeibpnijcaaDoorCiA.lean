/- Circles: what a slice of them reads as; what the call itself made. -/
import Derived.Test.YtcilfeibpnijcaaDoorCiT
import Derived.Test.YtcilfeibpnijcaaDoorBasB
import Derived.Test.YtcilfeibpnijcaaDoorAns3
namespace Go.Proofs.YtcilfeibpnijcaaDoor
open Go.RowKit

theorem Tryd.infoCi : (Tryd.prog.info? 26).map (fun i => (i.zero, i.size, i.bytes)) = some (some (.agg #[.int .i64 0, .int .i64 0, .int .i64 0, .int .i64 0]), 4, 32) := by kernel_rfl
def ciVs (t : Ci4) : List Value := [.int .i64 t.1, .int .i64 t.2.1, .int .i64 t.2.2.1, .int .i64 t.2.2.2]
def ciCells (L : List Ci4) : List Value := L.flatMap ciVs
theorem ciCells_len (L : List Ci4) : (ciCells L).length = L.length * 4 := by
  induction L with
  | nil => rfl
  | cons t L ih => simp [ciCells, ciVs] at ih ⊢; omega
theorem ciCells_snoc (L : List Ci4) (t : Ci4) : ciCells (L ++ [t]) = ciCells L ++ [.int .i64 t.1, .int .i64 t.2.1, .int .i64 t.2.2.1, .int .i64 t.2.2.2] := by simp [ciCells, ciVs]
theorem ciCells_at (L : List Ci4) (i : Nat) (h : i < L.length) : (ciCells L)[i * 4]? = some (.int .i64 (L.getD i c00).1) ∧ (ciCells L)[i * 4 + 1]? = some (.int .i64 (L.getD i c00).2.1) ∧ (ciCells L)[i * 4 + 2]? = some (.int .i64 (L.getD i c00).2.2.1) ∧ (ciCells L)[i * 4 + 3]? = some (.int .i64 (L.getD i c00).2.2.2) := by
  induction L generalizing i with
  | nil => simp at h
  | cons t L ih =>
    cases i with
    | zero => simp [ciCells, ciVs]
    | succ i =>
      have := ih i (by simpa using h)
      have e : ∀ j, (ciCells (t :: L))[j + 4]? = (ciCells L)[j]? := fun j => by simp [ciCells, ciVs]
      rw [show (i + 1) * 4 = i * 4 + 4 by omega, show i * 4 + 4 + 1 = (i * 4 + 1) + 4 by omega, show i * 4 + 4 + 2 = (i * 4 + 2) + 4 by omega, show i * 4 + 4 + 3 = (i * 4 + 3) + 4 by omega, e, e, e, e]
      simpa using this
theorem ciCells_set (L : List Ci4) (i : Nat) (hi : i < L.length) (t : Ci4) : ((((ciCells L).set (i * 4) (.int .i64 t.1)).set (i * 4 + 1) (.int .i64 t.2.1)).set (i * 4 + 2) (.int .i64 t.2.2.1)).set (i * 4 + 3) (.int .i64 t.2.2.2) = ciCells (L.set i t) := by
  induction L generalizing i with
  | nil => simp at hi
  | cons x L ih =>
    cases i with
    | zero => simp [ciCells, ciVs]
    | succ i =>
      have e : ciCells (x :: L) = [.int .i64 x.1, .int .i64 x.2.1, .int .i64 x.2.2.1, .int .i64 x.2.2.2] ++ ciCells L := by simp [ciCells, ciVs]
      have e2 : ciCells ((x :: L).set (i + 1) t) = [.int .i64 x.1, .int .i64 x.2.1, .int .i64 x.2.2.1, .int .i64 x.2.2.2] ++ ciCells (L.set i t) := by simp [ciCells, ciVs]
      rw [e, e2, ← ih i (by simpa using hi)]
      simp [Nat.add_mul]
/-- A slice that came in: it may begin anywhere. -/
def CisA (w : World) (v : Value) (L : List Ci4) : Prop := ∃ a cap, v = .slice a L.length cap ∧ L.length ≤ 9223372036854775807 ∧
  ∀ i, i < L.length → ∃ ad, a = some ad ∧ w.cell? (ad.add (i * 4)) = some (.int .i64 (L.getD i c00).1) ∧ w.cell? (ad.add (i * 4 + 1)) = some (.int .i64 (L.getD i c00).2.1) ∧ w.cell? (ad.add (i * 4 + 2)) = some (.int .i64 (L.getD i c00).2.2.1) ∧ w.cell? (ad.add (i * 4 + 3)) = some (.int .i64 (L.getD i c00).2.2.2)
/-- A slice from the head of a block on. -/
def Cis (w : World) (v : Value) (L : List Ci4) : Prop := ∃ a cap, v = .slice a L.length cap ∧ L.length ≤ 9223372036854775807 ∧ L.length ≤ cap ∧
  ∀ i, i < L.length → ∃ g, a = some ⟨g, 0, none⟩ ∧ w.cell? ⟨g, i * 4, none⟩ = some (.int .i64 (L.getD i c00).1) ∧ w.cell? ⟨g, i * 4 + 1, none⟩ = some (.int .i64 (L.getD i c00).2.1) ∧ w.cell? ⟨g, i * 4 + 2, none⟩ = some (.int .i64 (L.getD i c00).2.2.1) ∧ w.cell? ⟨g, i * 4 + 3, none⟩ = some (.int .i64 (L.getD i c00).2.2.2)
def OwnCis (lo hi : Nat) (w : World) (v : Value) (L : List Ci4) : Prop := w.ownsRow lo 26 4 v L.length (ciCells L) ∧ ∀ k, v.ownBlock = some k → k < hi
theorem CisA.later {w w' : World} {v : Value} {L : List Ci4} (h : CisA w v L) (k : Later w w') : CisA w' v L := by
  obtain ⟨a, cap, rfl, hl, hc⟩ := h
  refine ⟨a, cap, rfl, hl, fun i hi => ?_⟩
  obtain ⟨ad, rfl, h0, h1, h2, h3⟩ := hc i hi
  exact ⟨ad, rfl, k.cell h0, k.cell h1, k.cell h2, k.cell h3⟩
theorem Cis.later {w w' : World} {v : Value} {L : List Ci4} (h : Cis w v L) (k : Later w w') : Cis w' v L := by
  obtain ⟨a, cap, rfl, hl, hp, hc⟩ := h
  refine ⟨a, cap, rfl, hl, hp, fun i hi => ?_⟩
  obtain ⟨g, rfl, h0, h1, h2, h3⟩ := hc i hi
  exact ⟨g, rfl, k.cell h0, k.cell h1, k.cell h2, k.cell h3⟩
theorem Cis.nil (w : World) (cap : Nat) : Cis w (.slice none 0 cap) [] := ⟨none, cap, rfl, Nat.zero_le _, Nat.zero_le _, fun i hi => absurd hi (Nat.not_lt_zero i)⟩
theorem ownsRow_keep4 {w w' : World} {lo : Nat} {e : TypeId} {sz : Nat} {v : Value} {n : Nat} {xs : List Value} (h : w.ownsRow lo e sz v n xs)
    (k : ∀ b, v.ownBlock = some b → w'.heap[b]? = w.heap[b]?) : w'.ownsRow lo e sz v n xs := by
  refine ⟨h.1, ?_⟩
  rcases h.2 with hn | ⟨g, cap, cur, rfl, hb, hgg, rest⟩
  · exact .inl hn
  · exact .inr ⟨g, cap, cur, rfl, hb, (k g rfl).trans hgg, rest⟩
theorem ownsRow_base4 {w : World} {lo lo' sz : Nat} {e : TypeId} {v : Value} {n : Nat} {xs : List Value} (h : w.ownsRow lo e sz v n xs) (hl : lo' ≤ lo) : w.ownsRow lo' e sz v n xs := by
  refine ⟨h.1, ?_⟩
  rcases h.2 with hn | ⟨g, cap, cur, rfl, hb, rest⟩
  · exact .inl hn
  · exact .inr ⟨g, cap, cur, rfl, Nat.le_trans hl hb, rest⟩
theorem OwnCis.later {lo hi : Nat} {w w' : World} {v : Value} {L : List Ci4} (h : OwnCis lo hi w v L) (k : Later w w') : OwnCis lo hi w' v L :=
  ⟨ownsRow_keep4 h.1 fun b hb => k.block b (h.1.lt b hb).2, h.2⟩
theorem OwnCis.keep {w w' : World} {lo hi : Nat} {v : Value} {L : List Ci4} (h : OwnCis lo hi w v L) (k : ∀ b, lo ≤ b → b < hi → w'.heap[b]? = w.heap[b]?) : OwnCis lo hi w' v L :=
  ⟨ownsRow_keep4 h.1 fun b hb => k b (h.1.lt b hb).1 (h.2 b hb), h.2⟩
theorem OwnCis.wide {w : World} {lo hi lo' hi' : Nat} {v : Value} {L : List Ci4} (h : OwnCis lo hi w v L) (hl : lo' ≤ lo) (hh : hi ≤ hi') : OwnCis lo' hi' w v L :=
  ⟨ownsRow_base4 h.1 hl, fun k hk => Nat.lt_of_lt_of_le (h.2 k hk) hh⟩
theorem OwnCis.shape {lo hi : Nat} {w : World} {v : Value} {L : List Ci4} (h : OwnCis lo hi w v L) : ∃ a cap, v = .slice a L.length cap ∧ L.length ≤ cap := by
  rcases h.1.2 with ⟨rfl, h0⟩ | ⟨g, cap, cur, rfl, hb, hg, hn, _⟩
  · exact ⟨none, 0, by rw [h0], by omega⟩
  · exact ⟨_, cap, rfl, by omega⟩
theorem OwnCis.form {lo hi : Nat} {w : World} {v : Value} {L : List Ci4} (h : OwnCis lo hi w v L) : (v = .slice none 0 0 ∧ L = []) ∨ ∃ g cap, v = .slice (some ⟨g, 0, none⟩) L.length cap := by
  rcases h.1.2 with ⟨rfl, h0⟩ | ⟨g, cap, cur, rfl, _⟩
  · exact .inl ⟨rfl, List.eq_nil_of_length_eq_zero h0⟩
  · exact .inr ⟨g, cap, rfl⟩
theorem OwnCis.cis {lo hi : Nat} {w : World} {v : Value} {L : List Ci4} (h : OwnCis lo hi w v L) : Cis w v L := by
  rcases h.1.2 with ⟨rfl, h0⟩ | ⟨g, cap, cur, rfl, hb, hg, hn, hm, hs, ht⟩
  · have hL : L = [] := List.eq_nil_of_length_eq_zero h0
    subst hL
    exact Cis.nil w 0
  · refine ⟨_, cap, rfl, by unfold maxLen at hm; omega, hn, fun i hi => ⟨g, rfl, ?_⟩⟩
    have h' : w.ownsRow lo 26 4 (.slice (some ⟨g, 0, none⟩) L.length cap) L.length (ciCells L) := ⟨h.1.1, .inr ⟨g, cap, cur, rfl, hb, hg, hn, hm, hs, ht⟩⟩
    have ha := ciCells_at L i hi
    exact ⟨(h'.cellAt (i * 4) (by omega)).trans ha.1, (h'.cellAt (i * 4 + 1) (by omega)).trans ha.2.1, (h'.cellAt (i * 4 + 2) (by omega)).trans ha.2.2.1, (h'.cellAt (i * 4 + 3) (by omega)).trans ha.2.2.2⟩
theorem OwnCis.nothing (lo hi : Nat) (w : World) : OwnCis lo hi w (.slice none 0 0) [] := ⟨⟨rfl, .inl ⟨rfl, rfl⟩⟩, fun k hk => by simp [Value.ownBlock] at hk⟩
/-- One circle is written. -/
theorem OwnCis.put {lo hi : Nat} {w : World} {g cap : Nat} {L : List Ci4} (h : OwnCis lo hi w (.slice (some ⟨g, 0, none⟩) L.length cap) L) (i : Nat) (hi' : i < L.length) (p q r s : Int) :
    OwnCis lo hi ((((w.setCell ⟨g, i * 4, none⟩ (.int .i64 p)).setCell ⟨g, i * 4 + 1, none⟩ (.int .i64 q)).setCell ⟨g, i * 4 + 2, none⟩ (.int .i64 r)).setCell ⟨g, i * 4 + 3, none⟩ (.int .i64 s)) (.slice (some ⟨g, 0, none⟩) L.length cap) (L.set i (p, q, r, s)) := by
  have h1 := (World.ownsRow.stored h.1 (i * 4) (.int .i64 p)).1
  have h2 := (World.ownsRow.stored h1 (i * 4 + 1) (.int .i64 q)).1
  have h3 := (World.ownsRow.stored h2 (i * 4 + 2) (.int .i64 r)).1
  have h4 := (World.ownsRow.stored h3 (i * 4 + 3) (.int .i64 s)).1
  refine ⟨?_, h.2⟩
  rw [List.length_set, ← ciCells_set L i hi' (p, q, r, s)]
  exact h4
theorem OwnCis.openAt {lo hi : Nat} {w : World} {g cap n : Nat} {L : List Ci4} (h : OwnCis lo hi w (.slice (some ⟨g, 0, none⟩) n cap) L) (hn : L.length = n) (k : Nat) (hk : k < n) :
    (w.cell? ⟨g, k * 4, none⟩ = some (.int .i64 (L.getD k c00).1) ∧ w.cell? ⟨g, k * 4 + 1, none⟩ = some (.int .i64 (L.getD k c00).2.1) ∧ w.cell? ⟨g, k * 4 + 2, none⟩ = some (.int .i64 (L.getD k c00).2.2.1) ∧ w.cell? ⟨g, k * 4 + 3, none⟩ = some (.int .i64 (L.getD k c00).2.2.2)) ∧
    w.frozen? ⟨g, k * 4, none⟩ = false ∧ w.frozen? ⟨g, k * 4 + 1, none⟩ = false ∧ w.frozen? ⟨g, k * 4 + 2, none⟩ = false ∧ w.frozen? ⟨g, k * 4 + 3, none⟩ = false := by
  subst hn
  have hat := ciCells_at L k hk
  exact ⟨⟨(h.1.cellAt (k * 4) (by omega)).trans hat.1, (h.1.cellAt (k * 4 + 1) (by omega)).trans hat.2.1, (h.1.cellAt (k * 4 + 2) (by omega)).trans hat.2.2.1, (h.1.cellAt (k * 4 + 3) (by omega)).trans hat.2.2.2⟩,
    h.1.frozenAt _, h.1.frozenAt _, h.1.frozenAt _, h.1.frozenAt _⟩
theorem set4_far (w : World) (B k b : Nat) (p q r s : Value) (h : b ≠ B) :
    ((((w.setCell ⟨B, k, none⟩ p).setCell ⟨B, k + 1, none⟩ q).setCell ⟨B, k + 2, none⟩ r).setCell ⟨B, k + 3, none⟩ s).heap[b]? = w.heap[b]? := by
  rw [heap_setCell_other _ _ b _ h, heap_setCell_other _ _ b _ h, heap_setCell_other _ _ b _ h, heap_setCell_other _ _ b _ h]
theorem set4_later {w0 w : World} {B : Nat} (h : Later w0 w) (hB : w0.heap.size ≤ B) (k : Nat) (p q r s : Value) :
    Later w0 ((((w.setCell ⟨B, k, none⟩ p).setCell ⟨B, k + 1, none⟩ q).setCell ⟨B, k + 2, none⟩ r).setCell ⟨B, k + 3, none⟩ s) :=
  Below.setCell (Below.setCell (Below.setCell (Below.setCell h hB _) hB _) hB _) hB _

/-! ### answers -/
def ciVal (t : Ci4) : Value := .agg #[.int .i64 t.1, .int .i64 t.2.1, .int .i64 t.2.2.1, .int .i64 t.2.2.2]
def CiRes (w : World) (t : Ci4) (e : Ending) (w' : World) : Prop := e = .returned (.agg #[.int .i64 t.1, .int .i64 t.2.1, .int .i64 t.2.2.1, .int .i64 t.2.2.2]) ∧ Later w w'
def CiAns (w : World) (o : Option Ci4) (e : Ending) (w' : World) : Prop :=
  e = .returned (.tuple #[.agg #[.int .i64 (o.getD c00).1, .int .i64 (o.getD c00).2.1, .int .i64 (o.getD c00).2.2.1, .int .i64 (o.getD c00).2.2.2], .bool o.isSome]) ∧ Later w w'
def CisAns (w : World) (o : Option (List Ci4)) (e : Ending) (w' : World) : Prop :=
  ∃ v, e = .returned (.tuple #[v, .bool o.isSome]) ∧ OwnCis w.heap.size w'.heap.size w' v (o.getD []) ∧ Later w w'
def MadeCis (w : World) (L : List Ci4) (e : Ending) (w' : World) : Prop := ∃ v, e = .returned v ∧ OwnCis w.heap.size w'.heap.size w' v L ∧ Later w w'
end Go.Proofs.YtcilfeibpnijcaaDoor
