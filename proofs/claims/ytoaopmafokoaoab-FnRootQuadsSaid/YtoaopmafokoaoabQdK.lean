/- Rows of quads: what the program owns; listsOf. -/
import Derived.Test.YtoaopmafokoaoabQdH
import Derived.Test.YtoaopmafokoaoabRowsKI
import Derived.Deep.AppendLies
namespace Go.Proofs.Ytoaopmafokoaoab
open Go.RowKit

theorem Try.infoQd : (Try.prog.info? 62).map (fun i => (i.zero, i.size, i.bytes)) = some (some (.agg #[.int .i64 0, .int .i64 0, .int .i64 0, .int .i64 0]), 4, 32) := by kernel_rfl
abbrev Qd4 := Int × Int × Int × Int
def qsL (t : Qd4) : List Int := [t.1, t.2.1, t.2.2.1, t.2.2.2]
def qVs (t : Qd4) : List Value := [.int .i64 t.1, .int .i64 t.2.1, .int .i64 t.2.2.1, .int .i64 t.2.2.2]
def qCells (L : List Qd4) : List Value := L.flatMap qVs
theorem qCells_len (L : List Qd4) : (qCells L).length = L.length * 4 := by
  induction L with
  | nil => rfl
  | cons t L ih => simp [qCells, qVs] at ih ⊢; omega
theorem qCells_snoc (L : List Qd4) (t : Qd4) : qCells (L ++ [t]) = qCells L ++ [.int .i64 t.1, .int .i64 t.2.1, .int .i64 t.2.2.1, .int .i64 t.2.2.2] := by simp [qCells, qVs]
theorem qCells_at (L : List Qd4) (i : Nat) (h : i < L.length) : (qCells L)[i * 4]? = some (.int .i64 L[i].1) ∧ (qCells L)[i * 4 + 1]? = some (.int .i64 L[i].2.1) ∧ (qCells L)[i * 4 + 2]? = some (.int .i64 L[i].2.2.1) ∧ (qCells L)[i * 4 + 3]? = some (.int .i64 L[i].2.2.2) := by
  induction L generalizing i with
  | nil => simp at h
  | cons t L ih =>
    cases i with
    | zero => simp [qCells, qVs]
    | succ i =>
      have := ih i (by simpa using h)
      have e : ∀ j, (qCells (t :: L))[j + 4]? = (qCells L)[j]? := fun j => by simp [qCells, qVs]
      rw [show (i + 1) * 4 = i * 4 + 4 by omega, show i * 4 + 4 + 1 = (i * 4 + 1) + 4 by omega, show i * 4 + 4 + 2 = (i * 4 + 2) + 4 by omega, show i * 4 + 4 + 3 = (i * 4 + 3) + 4 by omega, e, e, e, e]
      simpa using this
/-- A row of solutions that reads so. -/
def Qs (w : World) (v : Value) (L : List Qd4) : Prop := ∃ a cap, v = .slice a L.length cap ∧ L.length ≤ 9223372036854775807 ∧
  ∀ i, (h : i < L.length) → ∃ g, a = some ⟨g, 0, none⟩ ∧ w.cell? ⟨g, i * 4, none⟩ = some (.int .i64 L[i].1) ∧ w.cell? ⟨g, i * 4 + 1, none⟩ = some (.int .i64 L[i].2.1) ∧ w.cell? ⟨g, i * 4 + 2, none⟩ = some (.int .i64 L[i].2.2.1) ∧ w.cell? ⟨g, i * 4 + 3, none⟩ = some (.int .i64 L[i].2.2.2)
def OwnQs (lo : Nat) (w : World) (v : Value) (L : List Qd4) : Prop := w.ownsRow lo 62 4 v L.length (qCells L)
theorem Qs.later {w w' : World} {v : Value} {L : List Qd4} (h : Qs w v L) (k : Later w w') : Qs w' v L := by
  obtain ⟨a, cap, rfl, hl, hc⟩ := h
  refine ⟨a, cap, rfl, hl, fun i hi => ?_⟩
  obtain ⟨g, rfl, h0, h1, h2, h3⟩ := hc i hi
  exact ⟨g, rfl, k.cell h0, k.cell h1, k.cell h2, k.cell h3⟩
theorem OwnQs.qs {lo : Nat} {w : World} {v : Value} {L : List Qd4} (h : OwnQs lo w v L) (hl : L.length ≤ 1000000000000) : Qs w v L := by
  rcases h.2 with ⟨rfl, h0⟩ | ⟨g, cap, cur, rfl, hb, hg, hn, hm, hs, ht⟩
  · have hL : L = [] := List.eq_nil_of_length_eq_zero h0
    subst hL
    exact ⟨none, 0, rfl, by simp, fun i hi => absurd hi (Nat.not_lt_zero i)⟩
  · refine ⟨_, cap, rfl, by omega, fun i hi => ⟨g, rfl, ?_⟩⟩
    have h' : w.ownsRow lo 62 4 (.slice (some ⟨g, 0, none⟩) L.length cap) L.length (qCells L) := ⟨h.1, .inr ⟨g, cap, cur, rfl, hb, hg, hn, hm, hs, ht⟩⟩
    have ha := qCells_at L i hi
    exact ⟨(h'.cellAt (i * 4) (by omega)).trans ha.1, (h'.cellAt (i * 4 + 1) (by omega)).trans ha.2.1, (h'.cellAt (i * 4 + 2) (by omega)).trans ha.2.2.1, (h'.cellAt (i * 4 + 3) (by omega)).trans ha.2.2.2⟩
theorem ownsRow_keepQ {w w' : World} {lo : Nat} {e : TypeId} {sz : Nat} {v : Value} {n : Nat} {xs : List Value} (h : w.ownsRow lo e sz v n xs)
    (k : ∀ b, v.ownBlock = some b → w'.heap[b]? = w.heap[b]?) : w'.ownsRow lo e sz v n xs := by
  refine ⟨h.1, ?_⟩
  rcases h.2 with hn | ⟨g, cap, cur, rfl, hb, hgg, rest⟩
  · exact .inl hn
  · exact .inr ⟨g, cap, cur, rfl, hb, (k g rfl).trans hgg, rest⟩
theorem OwnQs.later {lo : Nat} {w w' : World} {v : Value} {L : List Qd4} (h : OwnQs lo w v L) (k : Later w w') : OwnQs lo w' v L :=
  ownsRow_keepQ h fun b hb => k.block b (h.lt b hb).2
theorem OwnQs.shape {lo : Nat} {w : World} {v : Value} {L : List Qd4} (h : OwnQs lo w v L) : ∃ a cap, v = .slice a L.length cap ∧ L.length ≤ cap := by
  rcases h.2 with ⟨rfl, h0⟩ | ⟨g, cap, cur, rfl, hb, hg, hn, _⟩
  · exact ⟨none, 0, by rw [h0], by omega⟩
  · exact ⟨_, cap, rfl, by omega⟩
theorem OwnQs.one (w : World) (t : Qd4) : OwnQs w.heap.size (w.alloc (.cells #[.int .i64 t.1, .int .i64 t.2.1, .int .i64 t.2.2.1, .int .i64 t.2.2.2] 62)) (.slice (some ⟨w.heap.size, 0, none⟩) 1 1) [t] := by
  have h := World.ownsRow_lit (e := 62) (size := 4) w #[.int .i64 t.1, .int .i64 t.2.1, .int .i64 t.2.2.1, .int .i64 t.2.2.2] 1 (Nat.le_refl _) (by unfold maxLen; omega) (by simp)
  simpa [OwnQs, qCells, qVs] using h
theorem OwnQs.base {lo lo' : Nat} {w : World} {v : Value} {L : List Qd4} (h : OwnQs lo w v L) (hl : lo' ≤ lo) : OwnQs lo' w v L := by
  refine ⟨h.1, ?_⟩
  rcases h.2 with hn | ⟨g, cap, cur, rfl, hb, rest⟩
  · exact .inl hn
  · exact .inr ⟨g, cap, cur, rfl, Nat.le_trans hl hb, rest⟩

set_option maxRecDepth 20000 in
set_option maxHeartbeats 4000000 in
theorem listsOfQ_any (v : Value) (L : List Qd4) (w : World) (hb : L.length ≤ 1000000000000) (h : Qs w v L) :
    Calls Try.prog 51 #[v] w fun e w' => MadeRows w (L.map qsL) e w' := by
  obtain ⟨a, cap, rfl, hl, hc⟩ := h
  have HC := hid hc; clear hc
  obtain ⟨i0, hi, hz0, hz1, hz2⟩ := info_parts Try.infoInts
  have HB := hid hz2
  go_enter Try.func51, Try.ntmps51
  go_wp2_with (at_make; refine wpList_make_full _ rfl _ _ 26 rfl w.heap.size 24 i0 (.slice none 0 0) 1 Try.underlying26 hi hz0 hz1 _ _ _ _ L.length rfl rfl rfl rfl ?b2 ?b3 ?b4 ?_)
  case b2 => rw [HB.out]; omega
  case b3 => unfold maxLen; omega
  case b4 => exact Nat.le_refl _
  intro w1 hown hgrow
  have hL : Later w w1 := (Below.refl _ _).grown hgrow (Nat.le_refl _) (by simp)
  have hF : RowsTo w.heap.size w1 (.slice (some ⟨w.heap.size, 0, none⟩) L.length L.length) L.length 0 (L.map qsL) := RowsTo.start hown
  clear hown hgrow
  go_wp2
  go_loopw [11] (fun i wr => ∃ k : Nat, k ≤ L.length ∧ i = .int .i64 k ∧ RowsTo w.heap.size wr (.slice (some ⟨w.heap.size, 0, none⟩) L.length L.length) L.length k (L.map qsL) ∧ Later w wr)
    (fun i _ => L.length - (intOf i).toNat)
  case atStart => exact ⟨0, Nat.zero_le _, rfl, hF, hL⟩
  case round =>
    clear hF hL
    obtain ⟨k, hk, rfl, hFk, hLk⟩ := hrel
    by_cases hlt : k < L.length
    · obtain ⟨g, rfl, d0, d1, d2, d3⟩ := HC.out k hlt
      replace d0 := hLk.cell d0
      replace d1 := hLk.cell d1
      replace d2 := hLk.cell d2
      replace d3 := hLk.cell d3
      have HT := hid (show qsL L[k] = (L.map qsL).getD k [] by simp [hlt])
      obtain ⟨tk, htk⟩ : ∃ t, L[k] = t := ⟨_, rfl⟩
      rw [htk] at d0 d1 d2 d3 HT
      obtain ⟨a, b, c, d⟩ := tk
      clear htk
      have HF := hid hFk
      have HL := hid hLk
      clear hFk hLk
      simp only at d0 d1 d2 d3
      go_wp2_with fail
      refine (listQ_any a b c d _).mono ?_
      rintro e w2 ⟨v2, rfl, hown2, hL2⟩
      have hLA := (Later.alloc wr (.cells #[.int .i64 a, .int .i64 b, .int .i64 c, .int .i64 d] 62)).trans hL2
      have hown3 := (hown2.wide (Later.alloc wr (.cells #[.int .i64 a, .int .i64 b, .int .i64 c, .int .i64 d] 62)).size (Nat.le_refl _))
      obtain ⟨g2, cg2, rfl, _⟩ := hown2.shape
      have hF3 := HF.out.step hlt HL.out.size hLA (by rw [← HT.out]; exact hown3)
      obtain ⟨⟨u0, hu0⟩, hfr⟩ := HF.out.at_later hLA hlt
      have hL3 : Later w w2 := HL.out.trans hLA
      have HF3 := hid hF3
      have HL3 := hid (show Later w (w2.setCell ⟨w.heap.size, k, none⟩ _) from Below.setCell hL3 (Nat.le_refl _) (.slice g2 [a, b, c, d].length cg2))
      clear hF3 hown2 hown3 hL2 hL3 hLA d0 d1 d2 d3
      go_wp2
      go_roundw
      case rel => exact ⟨k + 1, hlt, by go_num, by simpa [hlt] using HF3.out, by simpa [hlt] using HL3.out⟩
      case measure => simp [intOf]; omega
    · go_wp2
      go_ret
      have : k = L.length := by omega
      subst this
      have hm : L.length = (L.map qsL).length := by simp
      exact ⟨_, rfl, by have := hFk; rw [hm] at this; have h2 := RowsTo.full this; rw [← hm] at h2; exact h2, hLk⟩
end Go.Proofs.Ytoaopmafokoaoab
