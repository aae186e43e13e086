/- Rows of right triples in the program: as lists. -/
import Derived.Test.YtdahhcigphhfdacRiAe
import Derived.Test.YtdahhcigphhfdacRiR
import Derived.Test.YtdahhcigphhfdacRiS
namespace Go.Proofs.Ytdahhcigphhfdac
open Go.RowKit

def Rts (w : World) (v : Value) (L : List VP) : Prop := ∃ a cap, v = .slice a L.length cap ∧ L.length ≤ 9223372036854775807 ∧
  ∀ i, (h : i < L.length) → ∃ g, a = some ⟨g, 0, none⟩ ∧ ∀ j, j < 5 → w.cell? ⟨g, i * 5 + j, none⟩ = (rtVp L[i])[j]?
theorem Rts.later {w w' : World} {v : Value} {L : List VP} (h : Rts w v L) (k : Later w w') : Rts w' v L := by
  obtain ⟨a, cap, rfl, hl, hc⟩ := h
  refine ⟨a, cap, rfl, hl, fun i hi => ?_⟩
  obtain ⟨g, rfl, h0⟩ := hc i hi
  refine ⟨g, rfl, fun j hj => ?_⟩
  have h5 : j < (rtVp L[i]).length := hj
  rw [List.getElem?_eq_getElem h5] at *
  have := h0 j hj
  rw [List.getElem?_eq_getElem h5] at this
  exact k.cell this
theorem OwnRts.rts {lo : Nat} {w : World} {v : Value} {L : List VP} (h : OwnRts lo w v L) (hl : L.length ≤ 1000000000000) : Rts w v L := by
  rcases h.2 with ⟨rfl, h0⟩ | ⟨g, cap, cur, rfl, hb, hg, hn, hm, hs, ht⟩
  · have hL : L = [] := List.eq_nil_of_length_eq_zero h0
    subst hL
    exact ⟨none, 0, rfl, by simp, fun i hi => absurd hi (Nat.not_lt_zero i)⟩
  · refine ⟨_, cap, rfl, by omega, fun i hi => ⟨g, rfl, fun j hj => ?_⟩⟩
    have h' : w.ownsRow lo 69 5 (.slice (some ⟨g, 0, none⟩) L.length cap) L.length (rtCells L) := ⟨h.1, .inr ⟨g, cap, cur, rfl, hb, hg, hn, hm, hs, ht⟩⟩
    exact (h'.cellAt (i * 5 + j) (by omega)).trans (rtCells_at L i hi j hj)
def vpL (p : VP) : List Int := rtL p.1

set_option maxRecDepth 20000 in
set_option maxHeartbeats 4000000 in
theorem listsOfR_any (v : Value) (L : List VP) (w : World) (hb : L.length ≤ 1000000000000) (h : Rts w v L) :
    Calls Try.prog 72 #[v] w fun e w' => MadeRows w (L.map vpL) e w' := by
  obtain ⟨a, cap, rfl, hl, hc⟩ := h
  have HC := hid hc; clear hc
  obtain ⟨i0, hi, hz0, hz1, hz2⟩ := info_parts Try.infoInts
  have HB := hid hz2
  go_enter Try.func72, Try.ntmps72
  go_wp2_with (at_make; refine wpList_make_full _ rfl _ _ 37 rfl w.heap.size 26 i0 (.slice none 0 0) 1 Try.underlying37 hi hz0 hz1 _ _ _ _ L.length rfl rfl rfl rfl ?b2 ?b3 ?b4 ?_)
  case b2 => rw [HB.out]; omega
  case b3 => unfold maxLen; omega
  case b4 => exact Nat.le_refl _
  intro w1 hown hgrow
  have hL : Later w w1 := (Below.refl _ _).grown hgrow (Nat.le_refl _) (by simp)
  have hF : RowsTo w.heap.size w1 (.slice (some ⟨w.heap.size, 0, none⟩) L.length L.length) L.length 0 (L.map vpL) := RowsTo.start hown
  clear hown hgrow
  go_wp2
  go_loopw [11] (fun i wr => ∃ k : Nat, k ≤ L.length ∧ i = .int .i64 k ∧ RowsTo w.heap.size wr (.slice (some ⟨w.heap.size, 0, none⟩) L.length L.length) L.length k (L.map vpL) ∧ Later w wr)
    (fun i _ => L.length - (intOf i).toNat)
  case atStart => exact ⟨0, Nat.zero_le _, rfl, hF, hL⟩
  case round =>
    clear hF hL
    obtain ⟨k, hk, rfl, hFk, hLk⟩ := hrel
    by_cases hlt : k < L.length
    · obtain ⟨g, rfl, dd⟩ := HC.out k hlt
      have HT := hid (show vpL L[k] = (L.map vpL).getD k [] by simp [hlt])
      obtain ⟨tk, htk⟩ : ∃ t, L[k] = t := ⟨_, rfl⟩
      rw [htk] at dd HT
      obtain ⟨⟨m, n⟩, hp⟩ := tk
      have d0 : w.cell? ⟨g, k * 5, none⟩ = some (.int .i64 m) := dd 0 (by omega)
      have d1 : w.cell? ⟨g, k * 5 + 1, none⟩ = some (.int .i64 n) := dd 1 (by omega)
      have d2 : w.cell? ⟨g, k * 5 + 2, none⟩ = some (.int .i64 (m * m - n * n)) := dd 2 (by omega)
      have d3 : w.cell? ⟨g, k * 5 + 3, none⟩ = some (.int .i64 (2 * m * n)) := dd 3 (by omega)
      have d4 : w.cell? ⟨g, k * 5 + 4, none⟩ = some (.int .i64 (m * m + n * n)) := dd 4 (by omega)
      replace d0 := hLk.cell d0
      replace d1 := hLk.cell d1
      replace d2 := hLk.cell d2
      replace d3 := hLk.cell d3
      replace d4 := hLk.cell d4
      clear htk dd
      have HF := hid hFk
      have HL := hid hLk
      have HR := hid (fun w0 => show Calls Try.prog 107 #[.agg #[.int .i64 m, .int .i64 n, .int .i64 (m * m - n * n), .int .i64 (2 * m * n), .int .i64 (m * m + n * n)]] w0 fun e w' => MadeInts w0 (sidesL m n) e w' from rtList_any m n w0)
      clear hFk hLk
      go_wp2_with fail
      refine (HR.out _).mono ?_
      rintro e w2 ⟨v2, rfl, hown2, hL2⟩
      have hLA := (Later.alloc wr (.cells #[.int .i64 m, .int .i64 n, .int .i64 (m * m - n * n), .int .i64 (2 * m * n), .int .i64 (m * m + n * n)] 69)).trans hL2
      have hown3 := (hown2.wide (Later.alloc wr (.cells #[.int .i64 m, .int .i64 n, .int .i64 (m * m - n * n), .int .i64 (2 * m * n), .int .i64 (m * m + n * n)] 69)).size (Nat.le_refl _))
      obtain ⟨g2, cg2, rfl, _⟩ := hown2.threeR
      have hF3 := HF.out.step hlt HL.out.size hLA (by rw [← HT.out]; exact hown3)
      obtain ⟨⟨u0, hu0⟩, hfr⟩ := HF.out.at_later hLA hlt
      have hL3 : Later w w2 := HL.out.trans hLA
      have HF3 := hid hF3
      have HL3 := hid (show Later w (w2.setCell ⟨w.heap.size, k, none⟩ _) from Below.setCell hL3 (Nat.le_refl _) (.slice (some ⟨g2, 0, none⟩) 3 cg2))
      clear hF3 hown2 hown3 hL2 hL3 hLA d0 d1 d2 d3 d4
      go_wp2
      go_roundw
      case rel => exact ⟨k + 1, hlt, by go_num, by simpa [hlt] using HF3.out, by simpa [hlt] using HL3.out⟩
      case measure => simp [intOf]; omega
    · go_wp2
      go_ret
      have : k = L.length := by omega
      subst this
      have hm : L.length = (L.map vpL).length := by simp
      exact ⟨_, rfl, by have := hFk; rw [hm] at this; have h2 := RowsTo.full this; rw [← hm] at h2; exact h2, hLk⟩
end Go.Proofs.Ytdahhcigphhfdac
