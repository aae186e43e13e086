/- Rows of pairs (two cells each): what the program owns. -/
import Derived.Test.YthejafejmbpepaaJp
import Derived.Test.YthejafejmbpepaaRowsK
import Derived.Deep.AppendLies
namespace Go.Proofs.Ythejafejmbpepaa
open Go.RowKit

theorem Try.infoJp : (Try.prog.info? 61).map (fun i => (i.zero, i.size, i.bytes)) = some (some (.agg #[.int .i64 0, .int .i64 0]), 2, 16) := by kernel_rfl
def jpVs (t : Jp2) : List Value := [.int .i64 t.1, .int .i64 t.2]
def jpCells (L : List Jp2) : List Value := L.flatMap jpVs
theorem jpCells_len (L : List Jp2) : (jpCells L).length = L.length * 2 := by
  induction L with
  | nil => rfl
  | cons t L ih => simp [jpCells, jpVs] at ih ⊢; omega
theorem jpCells_snoc (L : List Jp2) (t : Jp2) : jpCells (L ++ [t]) = jpCells L ++ [.int .i64 t.1, .int .i64 t.2] := by simp [jpCells, jpVs]
theorem jpCells_at (L : List Jp2) (i : Nat) (h : i < L.length) : (jpCells L)[i * 2]? = some (.int .i64 L[i].1) ∧ (jpCells L)[i * 2 + 1]? = some (.int .i64 L[i].2) := by
  induction L generalizing i with
  | nil => simp at h
  | cons t L ih =>
    cases i with
    | zero => simp [jpCells, jpVs]
    | succ i =>
      have := ih i (by simpa using h)
      have e : ∀ j, (jpCells (t :: L))[j + 2]? = (jpCells L)[j]? := fun j => by simp [jpCells, jpVs]
      rw [show (i + 1) * 2 = i * 2 + 2 by omega, show i * 2 + 2 + 1 = (i * 2 + 1) + 2 by omega, e, e]
      simpa using this
/-- A row of pairs that reads so. -/
def Jps (w : World) (v : Value) (L : List Jp2) : Prop := ∃ a cap, v = .slice a L.length cap ∧ L.length ≤ 9223372036854775807 ∧
  ∀ i, (h : i < L.length) → ∃ g, a = some ⟨g, 0, none⟩ ∧ w.cell? ⟨g, i * 2, none⟩ = some (.int .i64 L[i].1) ∧ w.cell? ⟨g, i * 2 + 1, none⟩ = some (.int .i64 L[i].2)
def OwnJps (lo : Nat) (w : World) (v : Value) (L : List Jp2) : Prop := w.ownsRow lo 61 2 v L.length (jpCells L)
theorem Jps.later {w w' : World} {v : Value} {L : List Jp2} (h : Jps w v L) (k : Later w w') : Jps w' v L := by
  obtain ⟨a, cap, rfl, hl, hc⟩ := h
  refine ⟨a, cap, rfl, hl, fun i hi => ?_⟩
  obtain ⟨g, rfl, h0, h1⟩ := hc i hi
  exact ⟨g, rfl, k.cell h0, k.cell h1⟩
theorem OwnJps.jps {lo : Nat} {w : World} {v : Value} {L : List Jp2} (h : OwnJps lo w v L) (hl : L.length ≤ 1000000000000) : Jps w v L := by
  rcases h.2 with ⟨rfl, h0⟩ | ⟨g, cap, cur, rfl, hb, hg, hn, hm, hs, ht⟩
  · have hL : L = [] := List.eq_nil_of_length_eq_zero h0
    subst hL
    exact ⟨none, 0, rfl, by simp, fun i hi => absurd hi (Nat.not_lt_zero i)⟩
  · refine ⟨_, cap, rfl, by omega, fun i hi => ⟨g, rfl, ?_⟩⟩
    have h' : w.ownsRow lo 61 2 (.slice (some ⟨g, 0, none⟩) L.length cap) L.length (jpCells L) := ⟨h.1, .inr ⟨g, cap, cur, rfl, hb, hg, hn, hm, hs, ht⟩⟩
    have ha := jpCells_at L i hi
    exact ⟨(h'.cellAt (i * 2) (by omega)).trans ha.1, (h'.cellAt (i * 2 + 1) (by omega)).trans ha.2⟩
theorem ownsRow_keepJ {w w' : World} {lo : Nat} {e : TypeId} {sz : Nat} {v : Value} {n : Nat} {xs : List Value} (h : w.ownsRow lo e sz v n xs)
    (k : ∀ b, v.ownBlock = some b → w'.heap[b]? = w.heap[b]?) : w'.ownsRow lo e sz v n xs := by
  refine ⟨h.1, ?_⟩
  rcases h.2 with hn | ⟨g, cap, cur, rfl, hb, hgg, rest⟩
  · exact .inl hn
  · exact .inr ⟨g, cap, cur, rfl, hb, (k g rfl).trans hgg, rest⟩
theorem OwnJps.later {lo : Nat} {w w' : World} {v : Value} {L : List Jp2} (h : OwnJps lo w v L) (k : Later w w') : OwnJps lo w' v L :=
  ownsRow_keepJ h fun b hb => k.block b (h.lt b hb).2
theorem OwnJps.shape {lo : Nat} {w : World} {v : Value} {L : List Jp2} (h : OwnJps lo w v L) : ∃ a cap, v = .slice a L.length cap ∧ L.length ≤ cap := by
  rcases h.2 with ⟨rfl, h0⟩ | ⟨g, cap, cur, rfl, hb, hg, hn, _⟩
  · exact ⟨none, 0, by rw [h0], by omega⟩
  · exact ⟨_, cap, rfl, by omega⟩
theorem OwnJps.base {lo lo' : Nat} {w : World} {v : Value} {L : List Jp2} (h : OwnJps lo w v L) (hl : lo' ≤ lo) : OwnJps lo' w v L := by
  refine ⟨h.1, ?_⟩
  rcases h.2 with hn | ⟨g, cap, cur, rfl, hb, rest⟩
  · exact .inl hn
  · exact .inr ⟨g, cap, cur, rfl, Nat.le_trans hl hb, rest⟩
theorem OwnJps.nil (lo : Nat) (w : World) : OwnJps lo w (.slice none 0 0) [] := World.ownsRow_nil _ _ _ _
theorem jp_lit (w : World) (a b : Int) : OwnInts w.heap.size (w.alloc (.cells #[.int .i64 a, .int .i64 b] 3)).heap.size (w.alloc (.cells #[.int .i64 a, .int .i64 b] 3)) (.slice (some ⟨w.heap.size, 0, none⟩) 2 2) [a, b] := by
  have h := World.ownsRow_lit (e := 3) (size := 1) w #[.int .i64 a, .int .i64 b] 2 (Nat.le_refl _) (by unfold maxLen; omega) (by simp)
  refine ⟨h, fun k hk => ?_⟩
  simp [Value.ownBlock] at hk ⊢
  omega
end Go.Proofs.Ythejafejmbpepaa
