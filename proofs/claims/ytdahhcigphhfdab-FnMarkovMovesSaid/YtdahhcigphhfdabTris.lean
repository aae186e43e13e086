/- Rows of triples: what the program owns; listsOf. -/
import Derived.Test.YtdahhcigphhfdabPathS
namespace Go.Proofs.Ytdahhcigphhfdab
open Go.RowKit

theorem Try.infoTri : (Try.prog.info? 106).map (fun i => (i.zero, i.size, i.bytes)) = some (some (.agg #[.int .i64 0, .int .i64 0, .int .i64 0]), 3, 24) := by kernel_rfl
abbrev Tr := Int × Int × Int
def trL (t : Tr) : List Int := [t.1, t.2.1, t.2.2]
def trCells (L : List Tr) : List Value := L.flatMap fun t => [.int .i64 t.1, .int .i64 t.2.1, .int .i64 t.2.2]
theorem trCells_len (L : List Tr) : (trCells L).length = L.length * 3 := by
  induction L with
  | nil => rfl
  | cons t L ih => simp [trCells] at ih ⊢; omega
theorem trCells_snoc (L : List Tr) (t : Tr) : trCells (L ++ [t]) = trCells L ++ [.int .i64 t.1, .int .i64 t.2.1, .int .i64 t.2.2] := by simp [trCells]
theorem trCells_at (L : List Tr) (i : Nat) (h : i < L.length) : (trCells L)[i * 3]? = some (.int .i64 L[i].1) ∧ (trCells L)[i * 3 + 1]? = some (.int .i64 L[i].2.1) ∧ (trCells L)[i * 3 + 2]? = some (.int .i64 L[i].2.2) := by
  induction L generalizing i with
  | nil => simp at h
  | cons t L ih =>
    cases i with
    | zero => simp [trCells]
    | succ i =>
      have := ih i (by simpa using h)
      have e : ∀ j, (trCells (t :: L))[j + 3]? = (trCells L)[j]? := fun j => by simp [trCells]
      rw [show (i + 1) * 3 = i * 3 + 3 by omega, show i * 3 + 3 + 1 = (i * 3 + 1) + 3 by omega, show i * 3 + 3 + 2 = (i * 3 + 2) + 3 by omega, e, e, e]
      simpa using this
/-- A row of triples that reads so. -/
def Tris (w : World) (v : Value) (L : List Tr) : Prop := ∃ a cap, v = .slice a L.length cap ∧ L.length ≤ 9223372036854775807 ∧
  ∀ i, (h : i < L.length) → ∃ g, a = some ⟨g, 0, none⟩ ∧ w.cell? ⟨g, i * 3, none⟩ = some (.int .i64 L[i].1) ∧ w.cell? ⟨g, i * 3 + 1, none⟩ = some (.int .i64 L[i].2.1) ∧ w.cell? ⟨g, i * 3 + 2, none⟩ = some (.int .i64 L[i].2.2)
def OwnTris (lo : Nat) (w : World) (v : Value) (L : List Tr) : Prop := w.ownsRow lo 106 3 v L.length (trCells L)
theorem Tris.later {w w' : World} {v : Value} {L : List Tr} (h : Tris w v L) (k : Later w w') : Tris w' v L := by
  obtain ⟨a, cap, rfl, hl, hc⟩ := h
  refine ⟨a, cap, rfl, hl, fun i hi => ?_⟩
  obtain ⟨g, rfl, h0, h1, h2⟩ := hc i hi
  exact ⟨g, rfl, k.cell h0, k.cell h1, k.cell h2⟩
theorem OwnTris.tris {lo : Nat} {w : World} {v : Value} {L : List Tr} (h : OwnTris lo w v L) (hl : L.length ≤ 1000000000000) : Tris w v L := by
  rcases h.2 with ⟨rfl, h0⟩ | ⟨g, cap, cur, rfl, hb, hg, hn, hm, hs, ht⟩
  · have hL : L = [] := List.eq_nil_of_length_eq_zero h0
    subst hL
    exact ⟨none, 0, rfl, by simp, fun i hi => absurd hi (Nat.not_lt_zero i)⟩
  · refine ⟨_, cap, rfl, by omega, fun i hi => ⟨g, rfl, ?_⟩⟩
    have h' : w.ownsRow lo 106 3 (.slice (some ⟨g, 0, none⟩) L.length cap) L.length (trCells L) := ⟨h.1, .inr ⟨g, cap, cur, rfl, hb, hg, hn, hm, hs, ht⟩⟩
    have ha := trCells_at L i hi
    exact ⟨(h'.cellAt (i * 3) (by omega)).trans ha.1, (h'.cellAt (i * 3 + 1) (by omega)).trans ha.2.1, (h'.cellAt (i * 3 + 2) (by omega)).trans ha.2.2⟩

set_option maxRecDepth 20000 in
set_option maxHeartbeats 4000000 in
theorem listsOf_any (v : Value) (L : List Tr) (w : World) (hb : L.length ≤ 1000000000000) (h : Tris w v L) :
    Calls Try.prog 115 #[v] w fun e w' => MadeRows w (L.map trL) e w' := by
  obtain ⟨a, cap, rfl, hl, hc⟩ := h
  have HC := hid hc; clear hc
  obtain ⟨i0, hi, hz0, hz1, hz2⟩ := info_parts Try.infoInts
  have HB := hid hz2
  go_enter Try.func115, Try.ntmps115
  go_wp2_with (at_make; refine wpList_make_full _ rfl _ _ 24 rfl w.heap.size 39 i0 (.slice none 0 0) 1 Try.underlying24 hi hz0 hz1 _ _ _ _ L.length rfl rfl rfl rfl ?b2 ?b3 ?b4 ?_)
  case b2 => rw [HB.out]; omega
  case b3 => unfold maxLen; omega
  case b4 => exact Nat.le_refl _
  intro w1 hown hgrow
  have hL : Later w w1 := (Below.refl _ _).grown hgrow (Nat.le_refl _) (by simp)
  have hF : RowsTo w.heap.size w1 (.slice (some ⟨w.heap.size, 0, none⟩) L.length L.length) L.length 0 (L.map trL) := RowsTo.start hown
  clear hown hgrow
  go_wp2
  go_loopw [11] (fun i wr => ∃ k : Nat, k ≤ L.length ∧ i = .int .i64 k ∧ RowsTo w.heap.size wr (.slice (some ⟨w.heap.size, 0, none⟩) L.length L.length) L.length k (L.map trL) ∧ Later w wr)
    (fun i _ => L.length - (intOf i).toNat)
  case atStart => exact ⟨0, Nat.zero_le _, rfl, hF, hL⟩
  case round =>
    clear hF hL
    obtain ⟨k, hk, rfl, hFk, hLk⟩ := hrel
    by_cases hlt : k < L.length
    · obtain ⟨g, rfl, d0, d1, d2⟩ := HC.out k hlt
      replace d0 := hLk.cell d0
      replace d1 := hLk.cell d1
      replace d2 := hLk.cell d2
      have HT := hid (show trL L[k] = (L.map trL).getD k [] by simp [hlt])
      obtain ⟨tk, htk⟩ : ∃ t, L[k] = t := ⟨_, rfl⟩
      rw [htk] at d0 d1 d2 HT
      obtain ⟨a, b, c⟩ := tk
      clear htk
      have HF := hid hFk
      have HL := hid hLk
      clear hFk hLk
      simp only at d0 d1 d2
      go_wp2_with fail
      refine (list_any a b c _).mono ?_
      rintro e w2 ⟨v2, rfl, hown2, hL2⟩
      have hLA := (Later.alloc wr (.cells #[.int .i64 a, .int .i64 b, .int .i64 c] 106)).trans hL2
      have hown3 := (hown2.wide (Later.alloc wr (.cells #[.int .i64 a, .int .i64 b, .int .i64 c] 106)).size (Nat.le_refl _))
      obtain ⟨g2, cg2, rfl, _⟩ := hown2.three
      have hF3 := HF.out.step hlt HL.out.size hLA (by rw [← HT.out]; exact hown3)
      obtain ⟨⟨u0, hu0⟩, hfr⟩ := HF.out.at_later hLA hlt
      have hL3 : Later w w2 := HL.out.trans hLA
      have HF3 := hid hF3
      have HL3 := hid (show Later w (w2.setCell ⟨w.heap.size, k, none⟩ _) from Below.setCell hL3 (Nat.le_refl _) (.slice (some ⟨g2, 0, none⟩) 3 cg2))
      clear hF3 hown2 hown3 hL2 hL3 hLA d0 d1 d2
      go_wp2
      go_roundw
      case rel => exact ⟨k + 1, hlt, by go_num, by simpa [hlt] using HF3.out, by simpa [hlt] using HL3.out⟩
      case measure => simp [intOf]; omega
    · go_wp2
      go_ret
      have : k = L.length := by omega
      subst this
      have hm : L.length = (L.map trL).length := by simp
      exact ⟨_, rfl, by have := hFk; rw [hm] at this; have h2 := RowsTo.full this; rw [← hm] at h2; exact h2, hLk⟩
end Go.Proofs.Ytdahhcigphhfdab
