/- Rows of quads: what the program owns; listsOf. -/
import Derived.Test.YtpkdikfjcbmcbacQdH
import Derived.Test.YtpkdikfjcbmcbacRowsK
import Derived.Deep.AppendLies
namespace Go.Proofs.Ytpkdikfjcbmcbac
open Go.RowKit

theorem Try.infoQd : (Try.prog.info? 46).map (fun i => (i.zero, i.size, i.bytes)) = some (some (.agg #[.int .i64 0, .int .i64 0, .int .i64 0, .int .i64 0]), 4, 32) := by kernel_rfl
abbrev Qd4 := Int × Int × Int × Int
def qsL (t : Qd4) : List Int := [t.1, t.2.1, t.2.2.1, t.2.2.2]
def qVs (t : Qd4) : List Value := [.int .i64 t.1, .int .i64 t.2.1, .int .i64 t.2.2.1, .int .i64 t.2.2.2]
def qCells (L : List Qd4) : List Value := L.flatMap qVs
theorem qCells_len (L : List Qd4) : (qCells L).length = L.length * 4 := by
  induction L with
  | nil => rfl
  | cons t L ih => simp [qCells, qVs] at ih ⊢; omega
theorem qCells_snoc (L : List Qd4) (t : Qd4) : qCells (L ++ [t]) = qCells L ++ [.int .i64 t.1, .int .i64 t.2.1, .int .i64 t.2.2.1, .int .i64 t.2.2.2] := by simp [qCells, qVs]
theorem qCells_at (L : List Qd4) (i : Nat) (h : i < L.length) : (qCells L)[i * 4]? = some (.int .i64 L[i].1) ∧ (qCells L)[i * 4 + 1]? = some (.int .i64 L[i].2.1) ∧ (qCells L)[i * 4 + 2]? = some (.int .i64 L[i].2.2.1) ∧ (qCells L)[i * 4 + 3]? = some (.int .i64 L[i].2.2.2) := by
  induction L generalizing i with
  | nil => simp at h
  | cons t L ih =>
    cases i with
    | zero => simp [qCells, qVs]
    | succ i =>
      have := ih i (by simpa using h)
      have e : ∀ j, (qCells (t :: L))[j + 4]? = (qCells L)[j]? := fun j => by simp [qCells, qVs]
      rw [show (i + 1) * 4 = i * 4 + 4 by omega, show i * 4 + 4 + 1 = (i * 4 + 1) + 4 by omega, show i * 4 + 4 + 2 = (i * 4 + 2) + 4 by omega, show i * 4 + 4 + 3 = (i * 4 + 3) + 4 by omega, e, e, e, e]
      simpa using this
/-- A row of solutions that reads so. -/
def Qs (w : World) (v : Value) (L : List Qd4) : Prop := ∃ a cap, v = .slice a L.length cap ∧ L.length ≤ 9223372036854775807 ∧
  ∀ i, (h : i < L.length) → ∃ g, a = some ⟨g, 0, none⟩ ∧ w.cell? ⟨g, i * 4, none⟩ = some (.int .i64 L[i].1) ∧ w.cell? ⟨g, i * 4 + 1, none⟩ = some (.int .i64 L[i].2.1) ∧ w.cell? ⟨g, i * 4 + 2, none⟩ = some (.int .i64 L[i].2.2.1) ∧ w.cell? ⟨g, i * 4 + 3, none⟩ = some (.int .i64 L[i].2.2.2)
def OwnQs (lo : Nat) (w : World) (v : Value) (L : List Qd4) : Prop := w.ownsRow lo 46 4 v L.length (qCells L)
theorem Qs.later {w w' : World} {v : Value} {L : List Qd4} (h : Qs w v L) (k : Later w w') : Qs w' v L := by
  obtain ⟨a, cap, rfl, hl, hc⟩ := h
  refine ⟨a, cap, rfl, hl, fun i hi => ?_⟩
  obtain ⟨g, rfl, h0, h1, h2, h3⟩ := hc i hi
  exact ⟨g, rfl, k.cell h0, k.cell h1, k.cell h2, k.cell h3⟩
theorem OwnQs.qs {lo : Nat} {w : World} {v : Value} {L : List Qd4} (h : OwnQs lo w v L) (hl : L.length ≤ 1000000000000) : Qs w v L := by
  rcases h.2 with ⟨rfl, h0⟩ | ⟨g, cap, cur, rfl, hb, hg, hn, hm, hs, ht⟩
  · have hL : L = [] := List.eq_nil_of_length_eq_zero h0
    subst hL
    exact ⟨none, 0, rfl, by simp, fun i hi => absurd hi (Nat.not_lt_zero i)⟩
  · refine ⟨_, cap, rfl, by omega, fun i hi => ⟨g, rfl, ?_⟩⟩
    have h' : w.ownsRow lo 46 4 (.slice (some ⟨g, 0, none⟩) L.length cap) L.length (qCells L) := ⟨h.1, .inr ⟨g, cap, cur, rfl, hb, hg, hn, hm, hs, ht⟩⟩
    have ha := qCells_at L i hi
    exact ⟨(h'.cellAt (i * 4) (by omega)).trans ha.1, (h'.cellAt (i * 4 + 1) (by omega)).trans ha.2.1, (h'.cellAt (i * 4 + 2) (by omega)).trans ha.2.2.1, (h'.cellAt (i * 4 + 3) (by omega)).trans ha.2.2.2⟩
theorem ownsRow_keepQ {w w' : World} {lo : Nat} {e : TypeId} {sz : Nat} {v : Value} {n : Nat} {xs : List Value} (h : w.ownsRow lo e sz v n xs)
    (k : ∀ b, v.ownBlock = some b → w'.heap[b]? = w.heap[b]?) : w'.ownsRow lo e sz v n xs := by
  refine ⟨h.1, ?_⟩
  rcases h.2 with hn | ⟨g, cap, cur, rfl, hb, hgg, rest⟩
  · exact .inl hn
  · exact .inr ⟨g, cap, cur, rfl, hb, (k g rfl).trans hgg, rest⟩
theorem OwnQs.later {lo : Nat} {w w' : World} {v : Value} {L : List Qd4} (h : OwnQs lo w v L) (k : Later w w') : OwnQs lo w' v L :=
  ownsRow_keepQ h fun b hb => k.block b (h.lt b hb).2
theorem OwnQs.shape {lo : Nat} {w : World} {v : Value} {L : List Qd4} (h : OwnQs lo w v L) : ∃ a cap, v = .slice a L.length cap ∧ L.length ≤ cap := by
  rcases h.2 with ⟨rfl, h0⟩ | ⟨g, cap, cur, rfl, hb, hg, hn, _⟩
  · exact ⟨none, 0, by rw [h0], by omega⟩
  · exact ⟨_, cap, rfl, by omega⟩
theorem OwnQs.one (w : World) (t : Qd4) : OwnQs w.heap.size (w.alloc (.cells #[.int .i64 t.1, .int .i64 t.2.1, .int .i64 t.2.2.1, .int .i64 t.2.2.2] 46)) (.slice (some ⟨w.heap.size, 0, none⟩) 1 1) [t] := by
  have h := World.ownsRow_lit (e := 46) (size := 4) w #[.int .i64 t.1, .int .i64 t.2.1, .int .i64 t.2.2.1, .int .i64 t.2.2.2] 1 (Nat.le_refl _) (by unfold maxLen; omega) (by simp)
  simpa [OwnQs, qCells, qVs] using h
theorem OwnQs.base {lo lo' : Nat} {w : World} {v : Value} {L : List Qd4} (h : OwnQs lo w v L) (hl : lo' ≤ lo) : OwnQs lo' w v L := by
  refine ⟨h.1, ?_⟩
  rcases h.2 with hn | ⟨g, cap, cur, rfl, hb, rest⟩
  · exact .inl hn
  · exact .inr ⟨g, cap, cur, rfl, Nat.le_trans hl hb, rest⟩

end Go.Proofs.Ytpkdikfjcbmcbac
