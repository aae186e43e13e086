/- JpK, JpL: in one text. -/
import Derived.Test.YtdahhcigphhfdaaJp
import Derived.Test.YtdahhcigphhfdaaRowsKI
import Derived.Deep.AppendLies
namespace Go.Proofs.Ytdahhcigphhfdaa
open Go.RowKit


theorem Try.infoJp : (Try.prog.info? 84).map (fun i => (i.zero, i.size, i.bytes)) = some (some (.agg #[.int .i64 0, .int .i64 0]), 2, 16) := by kernel_rfl
def jpVs (t : Jp2) : List Value := [.int .i64 t.1, .int .i64 t.2]
def jpCells (L : List Jp2) : List Value := L.flatMap jpVs
theorem jpCells_len (L : List Jp2) : (jpCells L).length = L.length * 2 := by
  induction L with
  | nil => rfl
  | cons t L ih => simp [jpCells, jpVs] at ih ⊢; omega
theorem jpCells_snoc (L : List Jp2) (t : Jp2) : jpCells (L ++ [t]) = jpCells L ++ [.int .i64 t.1, .int .i64 t.2] := by simp [jpCells, jpVs]
theorem jpCells_at (L : List Jp2) (i : Nat) (h : i < L.length) : (jpCells L)[i * 2]? = some (.int .i64 L[i].1) ∧ (jpCells L)[i * 2 + 1]? = some (.int .i64 L[i].2) := by
  induction L generalizing i with
  | nil => simp at h
  | cons t L ih =>
    cases i with
    | zero => simp [jpCells, jpVs]
    | succ i =>
      have := ih i (by simpa using h)
      have e : ∀ j, (jpCells (t :: L))[j + 2]? = (jpCells L)[j]? := fun j => by simp [jpCells, jpVs]
      rw [show (i + 1) * 2 = i * 2 + 2 by omega, show i * 2 + 2 + 1 = (i * 2 + 1) + 2 by omega, e, e]
      simpa using this
/-- A row of pairs that reads so. -/
def Jps (w : World) (v : Value) (L : List Jp2) : Prop := ∃ a cap, v = .slice a L.length cap ∧ L.length ≤ 9223372036854775807 ∧
  ∀ i, (h : i < L.length) → ∃ g, a = some ⟨g, 0, none⟩ ∧ w.cell? ⟨g, i * 2, none⟩ = some (.int .i64 L[i].1) ∧ w.cell? ⟨g, i * 2 + 1, none⟩ = some (.int .i64 L[i].2)
def OwnJps (lo : Nat) (w : World) (v : Value) (L : List Jp2) : Prop := w.ownsRow lo 84 2 v L.length (jpCells L)
theorem Jps.later {w w' : World} {v : Value} {L : List Jp2} (h : Jps w v L) (k : Later w w') : Jps w' v L := by
  obtain ⟨a, cap, rfl, hl, hc⟩ := h
  refine ⟨a, cap, rfl, hl, fun i hi => ?_⟩
  obtain ⟨g, rfl, h0, h1⟩ := hc i hi
  exact ⟨g, rfl, k.cell h0, k.cell h1⟩
theorem OwnJps.jps {lo : Nat} {w : World} {v : Value} {L : List Jp2} (h : OwnJps lo w v L) (hl : L.length ≤ 1000000000000) : Jps w v L := by
  rcases h.2 with ⟨rfl, h0⟩ | ⟨g, cap, cur, rfl, hb, hg, hn, hm, hs, ht⟩
  · have hL : L = [] := List.eq_nil_of_length_eq_zero h0
    subst hL
    exact ⟨none, 0, rfl, by simp, fun i hi => absurd hi (Nat.not_lt_zero i)⟩
  · refine ⟨_, cap, rfl, by omega, fun i hi => ⟨g, rfl, ?_⟩⟩
    have h' : w.ownsRow lo 84 2 (.slice (some ⟨g, 0, none⟩) L.length cap) L.length (jpCells L) := ⟨h.1, .inr ⟨g, cap, cur, rfl, hb, hg, hn, hm, hs, ht⟩⟩
    have ha := jpCells_at L i hi
    exact ⟨(h'.cellAt (i * 2) (by omega)).trans ha.1, (h'.cellAt (i * 2 + 1) (by omega)).trans ha.2⟩
theorem ownsRow_keepJ {w w' : World} {lo : Nat} {e : TypeId} {sz : Nat} {v : Value} {n : Nat} {xs : List Value} (h : w.ownsRow lo e sz v n xs)
    (k : ∀ b, v.ownBlock = some b → w'.heap[b]? = w.heap[b]?) : w'.ownsRow lo e sz v n xs := by
  refine ⟨h.1, ?_⟩
  rcases h.2 with hn | ⟨g, cap, cur, rfl, hb, hgg, rest⟩
  · exact .inl hn
  · exact .inr ⟨g, cap, cur, rfl, hb, (k g rfl).trans hgg, rest⟩
theorem OwnJps.later {lo : Nat} {w w' : World} {v : Value} {L : List Jp2} (h : OwnJps lo w v L) (k : Later w w') : OwnJps lo w' v L :=
  ownsRow_keepJ h fun b hb => k.block b (h.lt b hb).2
theorem OwnJps.shape {lo : Nat} {w : World} {v : Value} {L : List Jp2} (h : OwnJps lo w v L) : ∃ a cap, v = .slice a L.length cap ∧ L.length ≤ cap := by
  rcases h.2 with ⟨rfl, h0⟩ | ⟨g, cap, cur, rfl, hb, hg, hn, _⟩
  · exact ⟨none, 0, by rw [h0], by omega⟩
  · exact ⟨_, cap, rfl, by omega⟩
theorem OwnJps.base {lo lo' : Nat} {w : World} {v : Value} {L : List Jp2} (h : OwnJps lo w v L) (hl : lo' ≤ lo) : OwnJps lo' w v L := by
  refine ⟨h.1, ?_⟩
  rcases h.2 with hn | ⟨g, cap, cur, rfl, hb, rest⟩
  · exact .inl hn
  · exact .inr ⟨g, cap, cur, rfl, Nat.le_trans hl hb, rest⟩
theorem OwnJps.nil (lo : Nat) (w : World) : OwnJps lo w (.slice none 0 0) [] := World.ownsRow_nil _ _ _ _
theorem jp_lit (w : World) (a b : Int) : OwnInts w.heap.size (w.alloc (.cells #[.int .i64 a, .int .i64 b] 3)).heap.size (w.alloc (.cells #[.int .i64 a, .int .i64 b] 3)) (.slice (some ⟨w.heap.size, 0, none⟩) 2 2) [a, b] := by
  have h := World.ownsRow_lit (e := 3) (size := 1) w #[.int .i64 a, .int .i64 b] 2 (Nat.le_refl _) (by unfold maxLen; omega) (by simp)
  refine ⟨h, fun k hk => ?_⟩
  simp [Value.ownBlock] at hk ⊢
  omega


set_option maxRecDepth 20000 in
set_option maxHeartbeats 2000000 in
theorem listP_any (a b : Int) (w : World) :
    Calls Try.prog 200 #[.agg #[.int .i64 a, .int .i64 b]] w fun e w' => MadeInts w [a, b] e w' := by
  have HL := hid (Later.alloc w (.cells #[.int .i64 a, .int .i64 b] 84))
  have HL2 := hid (Later.alloc (w.alloc (.cells #[.int .i64 a, .int .i64 b] 84)) (.cells #[.int .i64 a, .int .i64 b] 3))
  have HO := hid (jp_lit (w.alloc (.cells #[.int .i64 a, .int .i64 b] 84)) a b)
  go_enter Try.func200, Try.ntmps200
  go_wp2_with fail
  go_ret
  refine ⟨_, rfl, ?_, HL.out.trans HL2.out⟩
  have h := HO.out.wide (lo' := w.heap.size) (by simp) (Nat.le_refl _)
  simpa using h

set_option maxRecDepth 20000 in
set_option maxHeartbeats 4000000 in
theorem listsOfJ_any (v : Value) (L : List Jp2) (w : World) (hb : L.length ≤ 1000000000000) (h : Jps w v L) :
    Calls Try.prog 134 #[v] w fun e w' => MadeRows w (L.map jpL) e w' := by
  obtain ⟨a, cap, rfl, hl, hc⟩ := h
  have HC := hid hc; clear hc
  obtain ⟨i0, hi, hz0, hz1, hz2⟩ := info_parts Try.infoInts
  have HB := hid hz2
  go_enter Try.func134, Try.ntmps134
  go_wp2_with (at_make; refine wpList_make_full _ rfl _ _ 26 rfl w.heap.size 32 i0 (.slice none 0 0) 1 Try.underlying26 hi hz0 hz1 _ _ _ _ L.length rfl rfl rfl rfl ?b2 ?b3 ?b4 ?_)
  case b2 => rw [HB.out]; omega
  case b3 => unfold maxLen; omega
  case b4 => exact Nat.le_refl _
  intro w1 hown hgrow
  have hL : Later w w1 := (Below.refl _ _).grown hgrow (Nat.le_refl _) (by simp)
  have hF : RowsTo w.heap.size w1 (.slice (some ⟨w.heap.size, 0, none⟩) L.length L.length) L.length 0 (L.map jpL) := RowsTo.start hown
  clear hown hgrow
  go_wp2
  go_loopw [11] (fun i wr => ∃ k : Nat, k ≤ L.length ∧ i = .int .i64 k ∧ RowsTo w.heap.size wr (.slice (some ⟨w.heap.size, 0, none⟩) L.length L.length) L.length k (L.map jpL) ∧ Later w wr)
    (fun i _ => L.length - (intOf i).toNat)
  case atStart => exact ⟨0, Nat.zero_le _, rfl, hF, hL⟩
  case round =>
    clear hF hL
    obtain ⟨k, hk, rfl, hFk, hLk⟩ := hrel
    by_cases hlt : k < L.length
    · obtain ⟨g, rfl, d0, d1⟩ := HC.out k hlt
      replace d0 := hLk.cell d0
      replace d1 := hLk.cell d1
      have HT := hid (show jpL L[k] = (L.map jpL).getD k [] by simp [hlt])
      obtain ⟨tk, htk⟩ : ∃ t, L[k] = t := ⟨_, rfl⟩
      rw [htk] at d0 d1 HT
      obtain ⟨a, b⟩ := tk
      clear htk
      have HF := hid hFk
      have HL := hid hLk
      clear hFk hLk
      simp only at d0 d1
      go_wp2_with fail
      refine (listP_any a b _).mono ?_
      rintro e w2 ⟨v2, rfl, hown2, hL2⟩
      have hLA := (Later.alloc wr (.cells #[.int .i64 a, .int .i64 b] 84)).trans hL2
      have hown3 := (hown2.wide (Later.alloc wr (.cells #[.int .i64 a, .int .i64 b] 84)).size (Nat.le_refl _))
      obtain ⟨g2, cg2, rfl, _⟩ := hown2.shape
      have hF3 := HF.out.step hlt HL.out.size hLA (by rw [← HT.out]; exact hown3)
      obtain ⟨⟨u0, hu0⟩, hfr⟩ := HF.out.at_later hLA hlt
      have hL3 : Later w w2 := HL.out.trans hLA
      have HF3 := hid hF3
      have HL3 := hid (show Later w (w2.setCell ⟨w.heap.size, k, none⟩ _) from Below.setCell hL3 (Nat.le_refl _) (.slice g2 [a, b].length cg2))
      clear hF3 hown2 hown3 hL2 hL3 hLA d0 d1
      go_wp2
      go_roundw
      case rel => exact ⟨k + 1, hlt, by go_num, by simpa [hlt] using HF3.out, by simpa [hlt] using HL3.out⟩
      case measure => simp [intOf]; omega
    · go_wp2
      go_ret
      have : k = L.length := by omega
      subst this
      have hm : L.length = (L.map jpL).length := by simp
      exact ⟨_, rfl, by have := hFk; rw [hm] at this; have h2 := RowsTo.full this; rw [← hm] at h2; exact h2, hLk⟩
theorem toldJ_len {L : List Jp2} (h : ¬ L.length ≤ 1000) : toldJ L = none := if_neg h
set_option maxRecDepth 20000 in
set_option maxHeartbeats 2000000 in
theorem toldPairs_any (v : Value) (L : List Jp2) (w : World) (hb : L.length ≤ 1000000000000) (h : Jps w v L) :
    Calls Try.prog 70 #[v] w fun e w' => RowsAns w (toldJ L) e w' := by
  obtain ⟨a, cap, rfl, hl, hc⟩ := id h
  have H := hid h
  clear h hc
  by_cases h1 : L.length ≤ 1000
  · have HA := hid (show toldJ L = some (L.map jpL) from if_pos h1)
    have h1I : (L.length : Int) ≤ 1000 := by omega
    go_enter Try.func70, Try.ntmps70
    go_wp2_with fail
    refine (listsOfJ_any _ L _ (by omega) H.out).mono ?_
    rintro e w4 ⟨v4, rfl, ho4, hL4⟩
    obtain ⟨a4, c4, rfl, _⟩ := ho4.shape
    rw [List.length_map] at ho4
    have HO4 := hid ho4
    have HL4 := hid hL4
    clear ho4 hL4
    go_wp2_with fail
    go_ret2
    rw [HA.out]
    exact ⟨_, rfl, HO4.out, HL4.out⟩
  · have HA := hid (toldJ_len h1)
    have h1I : ¬ (L.length : Int) ≤ 1000 := by omega
    go_enter Try.func70, Try.ntmps70
    go_wp2_with fail
    go_ret2
    rw [HA.out]
    exact ⟨_, rfl, OwnRows.noneH _ _ _, Later.refl _⟩
end Go.Proofs.Ytdahhcigphhfdaa
