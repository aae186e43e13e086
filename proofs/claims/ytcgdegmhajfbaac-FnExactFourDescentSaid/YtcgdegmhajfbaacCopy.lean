/- Contracts of the copies that a law makes of its arguments: toIntS, toIntSS, toMatrix. -/
import Derived.Test.YtcgdegmhajfbaacHelp
namespace Go.Proofs.Ytcgdegmhajfbaac
open Go.RowKit

/-- What a call that makes a row of ints leaves. -/
def MadeInts (w : World) (zs : List Int) (e : Ending) (w' : World) : Prop := ∃ v, e = .returned v ∧ OwnInts w.heap.size w'.heap.size w' v zs ∧ Later w w'
def MadeRows (w : World) (zss : List (List Int)) (e : Ending) (w' : World) : Prop := ∃ v, e = .returned v ∧ OwnRows w.heap.size w'.heap.size w' v zss ∧ Later w w'
def MadeMat (w : World) (zss : List (List Int)) (e : Ending) (w' : World) : Prop := ∃ v, e = .returned (.agg #[v]) ∧ OwnRows w.heap.size w'.heap.size w' v zss ∧ Later w w'

/-- A row of n cells whose first k hold the first k of us. -/
def Filled (lo : Nat) (e : TypeId) (w : World) (v : Value) (n k : Nat) (us : List Value) : Prop := ∃ xs, w.ownsRow lo e 1 v n xs ∧ xs.take k = us.take k
theorem Filled.step {lo : Nat} {e : TypeId} {w : World} {g n cap k : Nat} {us : List Value} {u : Value} (h : Filled lo e w (.slice (some ⟨g, 0, none⟩) n cap) n k us) (hk : k < n) (hu : us[k]? = some u) :
    Filled lo e (w.setCell ⟨g, k, none⟩ u) (.slice (some ⟨g, 0, none⟩) n cap) n (k + 1) us := by
  obtain ⟨xs, ho, hx⟩ := h
  have hl : xs.length = n := by have := ho.1; simpa using this
  refine ⟨xs.set k u, (ho.stored k u).1, ?_⟩
  rw [set_take xs (us.take k) k u (by omega) hx]
  rw [List.take_add_one, hu]; rfl
theorem Filled.full {lo : Nat} {e : TypeId} {w : World} {v : Value} {n : Nat} {us : List Value} (h : Filled lo e w v n n us) (hn : us.length = n) : w.ownsRow lo e 1 v n us := by
  obtain ⟨xs, ho, hx⟩ := h
  have hl : xs.length = n := by have := ho.1; simpa using this
  rw [List.take_of_length_le (by omega), List.take_of_length_le (by omega)] at hx
  rw [← hx]; exact ho
/-- the cell that the next store hits -/
theorem Filled.at {lo : Nat} {e : TypeId} {w : World} {g n cap k : Nat} {us : List Value} (h : Filled lo e w (.slice (some ⟨g, 0, none⟩) n cap) n k us) (hk : k < n) :
    (∃ u, w.cell? ⟨g, k, none⟩ = some u) ∧ w.frozen? ⟨g, k, none⟩ = false := by
  obtain ⟨xs, ho, hx⟩ := h
  have hl : xs.length = n := by have := ho.1; simpa using this
  refine ⟨⟨xs[k]'(by omega), ?_⟩, ho.frozenAt k⟩
  rw [ho.cellAt k (by omega)]; simp [hl, hk]

set_option maxHeartbeats 400000 in
theorem toIntS_any (v : Value) (zs : List Int) (w : World) (hb : zs.length ≤ 1048576) (h : Ints w v zs) :
    Calls Try.prog 15 #[v] w fun e w' => MadeInts w zs e w' := by
  obtain ⟨a, cap, rfl, hl, hc⟩ := h
  have HC := hid hc; clear hc
  obtain ⟨i0, hi, hz0, hz1, hz2⟩ := info_parts Try.infoInt
  have HB := hid hz2
  go_enter Try.func15, Try.ntmps15
  go_wp2_with (at_make; refine wpList_make_full _ rfl _ _ 28 rfl w.heap.size 3 i0 (.int .i64 0) 1 Try.underlying28 hi hz0 hz1 _ _ _ _ zs.length rfl rfl rfl rfl ?b2 ?b3 ?b4 ?_)
  case b2 => rw [HB.out]; omega
  case b3 => unfold maxLen; omega
  case b4 => exact Nat.le_refl _
  intro w1 hown hgrow
  have hL : Later w w1 := (Below.refl _ _).grown hgrow (Nat.le_refl _) (by simp)
  have hF : Filled w.heap.size 3 w1 (.slice (some ⟨w.heap.size, 0, none⟩) zs.length zs.length) zs.length 0 (zs.map (Value.int .i64)) := ⟨_, hown, by simp⟩
  clear hown hgrow
  go_wp2
  go_loopw [4] (fun i wr => ∃ k : Nat, k ≤ zs.length ∧ i = .int .i64 k ∧ Filled w.heap.size 3 wr (.slice (some ⟨w.heap.size, 0, none⟩) zs.length zs.length) zs.length k (zs.map (Value.int .i64)) ∧ Later w wr)
    (fun i _ => zs.length - (intOf i).toNat)
  case atStart => exact ⟨0, Nat.zero_le _, rfl, hF, hL⟩
  case round =>
    obtain ⟨k, hk, rfl, hFk, hLk⟩ := hrel
    by_cases hlt : k < zs.length
    · obtain ⟨ad, rfl, hcell⟩ := HC.out k hlt
      have hcell2 := hLk.cell hcell
      obtain ⟨⟨u0, hu0⟩, hfr⟩ := hFk.at hlt
      have hF' := hFk.step hlt (u := .int .i64 (zs.getD k 0)) (by simp [hlt])
      have hL' : Later w (wr.setCell ⟨w.heap.size, k, none⟩ (.int .i64 (zs.getD k 0))) := hLk.setCell (Nat.le_refl _) _
      have HF := hid hF'
      have HL := hid hL'
      clear hF' hL' hFk hLk hcell hF hL
      go_wp2
      go_roundw
      case rel => exact ⟨k + 1, hlt, by go_num, by simpa [hlt] using HF.out, by simpa [hlt] using HL.out⟩
      case measure => simp [intOf]; omega
    · go_wp2
      go_ret
      have : k = zs.length := by omega
      subst this
      have ho := hFk.full (by simp)
      exact ⟨_, rfl, ⟨ho, fun b hb => (ho.lt b hb).2⟩, hLk⟩

/-- A row of n cells, the first k of which hold rows of ints of the call's own. -/
def RowsTo (lo : Nat) (w : World) (v : Value) (n k : Nat) (zss : List (List Int)) : Prop :=
  ∃ xs us : List Value, w.ownsRow lo 28 1 v n xs ∧ us.length = k ∧ xs.take k = us ∧ (∀ i, i < k → OwnInts lo w.heap.size w (us.getD i undef) (zss.getD i [])) ∧
    ∀ i j, i < j → j < k → ∀ b, (us.getD i undef).ownBlock = some b → (us.getD j undef).ownBlock ≠ some b
theorem RowsTo.start {lo : Nat} {w : World} {v : Value} {n : Nat} {xs : List Value} {zss : List (List Int)} (h : w.ownsRow lo 28 1 v n xs) : RowsTo lo w v n 0 zss :=
  ⟨xs, [], h, rfl, by simp, fun i hi => absurd hi (Nat.not_lt_zero i), fun i j _ hj => absurd hj (Nat.not_lt_zero j)⟩
theorem RowsTo.at {lo : Nat} {w : World} {g n cap k : Nat} {zss : List (List Int)} (h : RowsTo lo w (.slice (some ⟨g, 0, none⟩) n cap) n k zss) (hk : k < n) :
    (∃ u, w.cell? ⟨g, k, none⟩ = some u) ∧ w.frozen? ⟨g, k, none⟩ = false := by
  obtain ⟨xs, us, ho, _, hx, _⟩ := h
  have hl : xs.length = n := by have := ho.1; simpa using this
  refine ⟨⟨xs[k]'(by omega), ?_⟩, ho.frozenAt k⟩
  rw [ho.cellAt k (by omega)]; simp [hl, hk]
theorem RowsTo.at_later {lo : Nat} {w w1 : World} {g n cap k : Nat} {zss : List (List Int)} (h : RowsTo lo w (.slice (some ⟨g, 0, none⟩) n cap) n k zss) (hL : Later w w1) (hk : k < n) :
    (∃ u, w1.cell? ⟨g, k, none⟩ = some u) ∧ w1.frozen? ⟨g, k, none⟩ = false := by
  obtain ⟨⟨u, hu⟩, hf⟩ := h.at hk
  exact ⟨⟨u, hL.cell hu⟩, hL.frozen hu hf⟩
theorem ownsRow_head {w : World} {lo : Nat} {e : TypeId} {g n cap m : Nat} {xs : List Value} (h : w.ownsRow lo e 1 (.slice (some ⟨g, 0, none⟩) n cap) m xs) : ∃ cur, w.heap[g]? = some (.cells cur e (0, 0)) := by
  rcases h.2 with ⟨h', _⟩ | ⟨g', cap', cur, h', _, hg, _⟩
  · simp at h'
  · simp only [Value.slice.injEq, Option.some.injEq, Addr.mk.injEq, and_true] at h'
    obtain ⟨rfl, _, _⟩ := h'
    exact ⟨cur, hg⟩
theorem ownsRow_block {w : World} {lo : Nat} {e : TypeId} {v : Value} {m b : Nat} {xs : List Value} (h : w.ownsRow lo e 1 v m xs) (hb : v.ownBlock = some b) : ∃ cur, w.heap[b]? = some (.cells cur e (0, 0)) := by
  rcases h.2 with ⟨rfl, _⟩ | ⟨g', cap', cur, rfl, _, hg, _⟩
  · simp [Value.ownBlock] at hb
  · simp [Value.ownBlock] at hb; subst hb; exact ⟨cur, hg⟩
/-- Ints in another block than one of slices. -/
theorem OwnInts.ne {lo hi : Nat} {w : World} {v : Value} {zs : List Int} (h : OwnInts lo hi w v zs) {g : Nat} {cur : Array Value} (hg : w.heap[g]? = some (.cells cur 28 (0, 0))) : v.ownBlock ≠ some g := by
  intro hb
  obtain ⟨c, hc⟩ := ownsRow_block h.1 hb
  rw [hg] at hc
  simp at hc
theorem OwnInts.setCell {lo hi : Nat} {w : World} {v : Value} {zs : List Int} (h : OwnInts lo hi w v zs) {a : Addr} (ha : v.ownBlock ≠ some a.block) (u : Value) : OwnInts lo hi (w.setCell a u) v zs :=
  ⟨ownsRow_keep h.1 fun b hb => heap_setCell_other w a b u (fun e => ha (by rw [hb, e])), h.2⟩
theorem RowsTo.step {lo : Nat} {w w1 : World} {g n cap k : Nat} {zss : List (List Int)} {u : Value} (h : RowsTo lo w (.slice (some ⟨g, 0, none⟩) n cap) n k zss) (hk : k < n) (hlo : lo ≤ w.heap.size)
    (hL : Later w w1) (hu : OwnInts w.heap.size w1.heap.size w1 u (zss.getD k [])) :
    RowsTo lo (w1.setCell ⟨g, k, none⟩ u) (.slice (some ⟨g, 0, none⟩) n cap) n (k + 1) zss := by
  obtain ⟨xs, us, ho, hul, hx, hin, hd⟩ := h
  have hl : xs.length = n := by have := ho.1; simpa using this
  have ho1 : w1.ownsRow lo 28 1 (.slice (some ⟨g, 0, none⟩) n cap) n xs := ownsRow_keep ho fun b hb => hL.block b (ho.lt b hb).2
  obtain ⟨cur, hcur⟩ := ownsRow_head ho1
  have hsz : (w1.setCell ⟨g, k, none⟩ u).heap.size = w1.heap.size := by simp [World.setCell]
  refine ⟨xs.set k u, us ++ [u], (ho1.stored k u).1, by simp [hul], by rw [set_take xs us k u (by omega) hx], ?_, ?_⟩
  · intro i hi
    rw [hsz]
    by_cases hik : i = k
    · subst hik
      rw [show (us ++ [u]).getD i undef = u by simp [← hul]]
      exact (hu.wide hlo (Nat.le_refl _)).setCell (hu.ne hcur) u
    · rw [show (us ++ [u]).getD i undef = us.getD i undef by simp [List.getElem?_append_left (show i < us.length by omega)]]
      have h1 := ((hin i (by omega)).later hL).wide (Nat.le_refl lo) hL.size
      exact h1.setCell (h1.ne hcur) u
  · intro i j hij hj b hb
    rw [show (us ++ [u]).getD i undef = us.getD i undef by simp [List.getElem?_append_left (show i < us.length by omega)]] at hb
    by_cases hjk : j = k
    · subst hjk
      rw [show (us ++ [u]).getD j undef = u by simp [← hul]]
      intro hb2
      have h1 := (hin i hij).2 b hb
      have h2 := (hu.1.lt b hb2).1
      omega
    · rw [show (us ++ [u]).getD j undef = us.getD j undef by simp [List.getElem?_append_left (show j < us.length by omega)]]
      exact hd i j hij (by omega) b hb
theorem RowsTo.full {lo : Nat} {w : World} {v : Value} {zss : List (List Int)} (h : RowsTo lo w v zss.length zss.length zss) : OwnRows lo w.heap.size w v zss := by
  obtain ⟨xs, us, ho, hul, hx, hin, hd⟩ := h
  have hl : xs.length = zss.length := by have := ho.1; simpa using this
  rw [List.take_of_length_le (by omega)] at hx
  subst hx
  exact ⟨xs, hul, by rw [hul]; exact ho, fun b hb => (ho.lt b hb).2, hin, hd⟩

theorem OwnRows.shape {w : World} {lo hi : Nat} {v : Value} {zss : List (List Int)} (h : OwnRows lo hi w v zss) : ∃ a cap, v = .slice a zss.length cap ∧ zss.length ≤ cap := by
  obtain ⟨us, hl, ho, _⟩ := h
  obtain ⟨a, cap, rfl, h1, _⟩ := ownsRow_shape ho
  exact ⟨a, cap, by rw [hl], by omega⟩
theorem OwnInts.shape {w : World} {lo hi : Nat} {v : Value} {zs : List Int} (h : OwnInts lo hi w v zs) : ∃ a cap, v = .slice a zs.length cap ∧ zs.length ≤ cap := by
  obtain ⟨a, cap, rfl, h1, _⟩ := ownsRow_shape h.1
  exact ⟨a, cap, rfl, h1⟩
theorem OwnRows.setCell {lo hi : Nat} {w : World} {v : Value} {zss : List (List Int)} (h : OwnRows lo hi w v zss) {a : Addr} (ha : a.block < lo) (u : Value) : OwnRows lo hi (w.setCell a u) v zss :=
  h.keep fun b hb _ => heap_setCell_other w a b u (by omega)
theorem OwnInts.setCell_below {lo hi : Nat} {w : World} {v : Value} {zs : List Int} (h : OwnInts lo hi w v zs) {a : Addr} (ha : a.block < lo) (u : Value) : OwnInts lo hi (w.setCell a u) v zs :=
  h.keep fun b hb _ => heap_setCell_other w a b u (by omega)

end Go.Proofs.Ytcgdegmhajfbaac
