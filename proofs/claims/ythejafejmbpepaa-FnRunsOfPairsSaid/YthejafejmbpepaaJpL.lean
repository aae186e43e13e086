/- Rows of pairs (the program): list, listsOf, toldPairs. -/
import Derived.Test.YthejafejmbpepaaJpK
namespace Go.Proofs.Ythejafejmbpepaa
open Go.RowKit

set_option maxRecDepth 20000 in
set_option maxHeartbeats 2000000 in
theorem listP_any (a b : Int) (w : World) :
    Calls Try.prog 133 #[.agg #[.int .i64 a, .int .i64 b]] w fun e w' => MadeInts w [a, b] e w' := by
  have HL := hid (Later.alloc w (.cells #[.int .i64 a, .int .i64 b] 61))
  have HL2 := hid (Later.alloc (w.alloc (.cells #[.int .i64 a, .int .i64 b] 61)) (.cells #[.int .i64 a, .int .i64 b] 3))
  have HO := hid (jp_lit (w.alloc (.cells #[.int .i64 a, .int .i64 b] 61)) a b)
  go_enter Try.func133, Try.ntmps133
  go_wp2_with fail
  go_ret
  refine ⟨_, rfl, ?_, HL.out.trans HL2.out⟩
  have h := HO.out.wide (lo' := w.heap.size) (by simp) (Nat.le_refl _)
  simpa using h

set_option maxRecDepth 20000 in
set_option maxHeartbeats 4000000 in
theorem listsOfJ_any (v : Value) (L : List Jp2) (w : World) (hb : L.length ≤ 1000000000000) (h : Jps w v L) :
    Calls Try.prog 66 #[v] w fun e w' => MadeRows w (L.map jpL) e w' := by
  obtain ⟨a, cap, rfl, hl, hc⟩ := h
  have HC := hid hc; clear hc
  obtain ⟨i0, hi, hz0, hz1, hz2⟩ := info_parts Try.infoInts
  have HB := hid hz2
  go_enter Try.func66, Try.ntmps66
  go_wp2_with (at_make; refine wpList_make_full _ rfl _ _ 29 rfl w.heap.size 34 i0 (.slice none 0 0) 1 Try.underlying29 hi hz0 hz1 _ _ _ _ L.length rfl rfl rfl rfl ?b2 ?b3 ?b4 ?_)
  case b2 => rw [HB.out]; omega
  case b3 => unfold maxLen; omega
  case b4 => exact Nat.le_refl _
  intro w1 hown hgrow
  have hL : Later w w1 := (Below.refl _ _).grown hgrow (Nat.le_refl _) (by simp)
  have hF : RowsTo w.heap.size w1 (.slice (some ⟨w.heap.size, 0, none⟩) L.length L.length) L.length 0 (L.map jpL) := RowsTo.start hown
  clear hown hgrow
  go_wp2
  go_loopw [11] (fun i wr => ∃ k : Nat, k ≤ L.length ∧ i = .int .i64 k ∧ RowsTo w.heap.size wr (.slice (some ⟨w.heap.size, 0, none⟩) L.length L.length) L.length k (L.map jpL) ∧ Later w wr)
    (fun i _ => L.length - (intOf i).toNat)
  case atStart => exact ⟨0, Nat.zero_le _, rfl, hF, hL⟩
  case round =>
    clear hF hL
    obtain ⟨k, hk, rfl, hFk, hLk⟩ := hrel
    by_cases hlt : k < L.length
    · obtain ⟨g, rfl, d0, d1⟩ := HC.out k hlt
      replace d0 := hLk.cell d0
      replace d1 := hLk.cell d1
      have HT := hid (show jpL L[k] = (L.map jpL).getD k [] by simp [hlt])
      obtain ⟨tk, htk⟩ : ∃ t, L[k] = t := ⟨_, rfl⟩
      rw [htk] at d0 d1 HT
      obtain ⟨a, b⟩ := tk
      clear htk
      have HF := hid hFk
      have HL := hid hLk
      clear hFk hLk
      simp only at d0 d1
      go_wp2_with fail
      refine (listP_any a b _).mono ?_
      rintro e w2 ⟨v2, rfl, hown2, hL2⟩
      have hLA := (Later.alloc wr (.cells #[.int .i64 a, .int .i64 b] 61)).trans hL2
      have hown3 := (hown2.wide (Later.alloc wr (.cells #[.int .i64 a, .int .i64 b] 61)).size (Nat.le_refl _))
      obtain ⟨g2, cg2, rfl, _⟩ := hown2.shape
      have hF3 := HF.out.step hlt HL.out.size hLA (by rw [← HT.out]; exact hown3)
      obtain ⟨⟨u0, hu0⟩, hfr⟩ := HF.out.at_later hLA hlt
      have hL3 : Later w w2 := HL.out.trans hLA
      have HF3 := hid hF3
      have HL3 := hid (show Later w (w2.setCell ⟨w.heap.size, k, none⟩ _) from Below.setCell hL3 (Nat.le_refl _) (.slice g2 [a, b].length cg2))
      clear hF3 hown2 hown3 hL2 hL3 hLA d0 d1
      go_wp2
      go_roundw
      case rel => exact ⟨k + 1, hlt, by go_num, by simpa [hlt] using HF3.out, by simpa [hlt] using HL3.out⟩
      case measure => simp [intOf]; omega
    · go_wp2
      go_ret
      have : k = L.length := by omega
      subst this
      have hm : L.length = (L.map jpL).length := by simp
      exact ⟨_, rfl, by have := hFk; rw [hm] at this; have h2 := RowsTo.full this; rw [← hm] at h2; exact h2, hLk⟩
theorem toldJ_len {L : List Jp2} (h : ¬ L.length ≤ 1000) : toldJ L = none := if_neg h
set_option maxRecDepth 20000 in
set_option maxHeartbeats 2000000 in
theorem toldPairs_any (v : Value) (L : List Jp2) (w : World) (hb : L.length ≤ 1000000000000) (h : Jps w v L) :
    Calls Try.prog 70 #[v] w fun e w' => RowsAns w (toldJ L) e w' := by
  obtain ⟨a, cap, rfl, hl, hc⟩ := id h
  have H := hid h
  clear h hc
  by_cases h1 : L.length ≤ 1000
  · have HA := hid (show toldJ L = some (L.map jpL) from if_pos h1)
    have h1I : (L.length : Int) ≤ 1000 := by omega
    go_enter Try.func70, Try.ntmps70
    go_wp2_with fail
    refine (listsOfJ_any _ L _ (by omega) H.out).mono ?_
    rintro e w4 ⟨v4, rfl, ho4, hL4⟩
    obtain ⟨a4, c4, rfl, _⟩ := ho4.shape
    rw [List.length_map] at ho4
    have HO4 := hid ho4
    have HL4 := hid hL4
    clear ho4 hL4
    go_wp2_with fail
    go_ret2
    rw [HA.out]
    exact ⟨_, rfl, HO4.out, HL4.out⟩
  · have HA := hid (toldJ_len h1)
    have h1I : ¬ (L.length : Int) ≤ 1000 := by omega
    go_enter Try.func70, Try.ntmps70
    go_wp2_with fail
    go_ret2
    rw [HA.out]
    exact ⟨_, rfl, OwnRows.noneH _ _ _, Later.refl _⟩
end Go.Proofs.Ythejafejmbpepaa
