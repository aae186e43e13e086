/- Contracts of the generic helpers of the program that take a function value: sumOver, gridOf; for whatever function value that answers by a function of the indices. -/
import Derived.Test.YtcgdegmhajfbaacGood
import Derived.Deep.RegionHeld3
namespace Go.Proofs.Ytcgdegmhajfbaac
open Go.RowKit

/-- A sum as the program makes it: from the left, wrapping. -/
def wsum (f : Nat → Int) : Nat → Int
  | 0 => 0
  | k + 1 => wrap64 (wsum f k + f k)
theorem wsum_succ (f : Nat → Int) (k : Nat) : wsum f (k + 1) = wrap64 (wsum f k + f k) := rfl
theorem wsum_congr (f g : Nat → Int) (n : Nat) (h : ∀ i, i < n → f i = g i) : wsum f n = wsum g n := by
  induction n with
  | zero => rfl
  | succ n ih => rw [wsum_succ, wsum_succ, ih (fun i hi => h i (by omega)), h n (by omega)]

set_option maxHeartbeats 400000 in
theorem sumOver_any (v : Value) (zs : List Int) (F : Nat) (caps : Array Value) (f : Nat → Int) (w : World) (eg : ∀ args w, (callFunc F args).run Try.prog w = .ok (.enter F args) w) (h : Ints w v zs)
    (hF : ∀ i w1, i < zs.length → Later w w1 → Calls Try.prog F (#[.int .i64 i, .int .i64 (zs.getD i 0)] ++ caps) w1 fun e w2 => e = .returned (.int .i64 (f i)) ∧ Later w1 w2) :
    Calls Try.prog 61 #[v, .func (.func F) #[] caps] w fun e w' => e = .returned (.int .i64 (wsum f zs.length)) ∧ Later w w' := by
  obtain ⟨a, cap, rfl, hl, hc⟩ := h
  have HC := hid hc; clear hc
  have HF := hid hF; clear hF
  go_enter Try.func61, Try.ntmps61
  go_wp2_with fail
  go_loopw [5, 10] (fun s i wr => ∃ k : Nat, k ≤ zs.length ∧ i = .int .i64 k ∧ s = .int .i64 (wsum f k) ∧ Later w wr) (fun _ i _ => zs.length - (intOf i).toNat)
  case atStart => exact ⟨0, Nat.zero_le _, rfl, rfl, Later.refl w⟩
  case round =>
    obtain ⟨k, hk, rfl, rfl, hal⟩ := hrel
    by_cases hlt : k < zs.length
    · obtain ⟨ad, rfl, hcell⟩ := HC.out k hlt
      have hcellr := hal.cell hcell
      have hcall := HF.out k wr hlt hal
      rw [getD_at zs k hlt] at hcellr hcall
      have HCALL := hid hcall
      have HAL := hid hal
      clear hcall hal hcell
      go_wp2_with fail
      refine HCALL.out.mono ?_
      rintro e w2 ⟨rfl, hL⟩
      have HL := hid (HAL.out.trans hL)
      clear hL
      go_wp2_with fail
      go_roundw
      case rel => exact ⟨k + 1, hlt, by go_num, rfl, HL.out⟩
      case measure => simp [intOf]; omega
    · go_wp2_with fail
      go_ret
      have : k = zs.length := by omega
      subst this
      exact ⟨rfl, hal⟩

/-! ### gridOf -/

theorem Filled.keep {lo : Nat} {e : TypeId} {w w' : World} {v : Value} {n k : Nat} {us : List Value} (h : Filled lo e w v n k us) (hk : ∀ b, v.ownBlock = some b → w'.heap[b]? = w.heap[b]?) : Filled lo e w' v n k us := by
  obtain ⟨xs, ho, hx⟩ := h
  exact ⟨xs, ownsRow_keep ho hk, hx⟩

def mk (n : Nat) (f : Nat → Nat → Int) : List (List Int) := (List.range n).map fun i => (List.range n).map fun j => f i j
theorem mk_length (n : Nat) (f : Nat → Nat → Int) : (mk n f).length = n := by simp [mk]
theorem mk_row (n : Nat) (f : Nat → Nat → Int) (i : Nat) (h : i < n) : (mk n f).getD i [] = (List.range n).map (f i) := by simp [mk, h]
theorem mk_congr (n : Nat) (f g : Nat → Nat → Int) (h : ∀ i j, i < n → j < n → f i j = g i j) : mk n f = mk n g := by
  unfold mk
  exact List.map_congr_left fun i hi => List.map_congr_left fun j hj => h i j (List.mem_range.1 hi) (List.mem_range.1 hj)

/-- Blocks from B on that were there are as they were. -/
def Upper (B : Nat) (w w' : World) : Prop := w.heap.size ≤ w'.heap.size ∧ ∀ k, B ≤ k → k < w.heap.size → w'.heap[k]? = w.heap[k]?
theorem Upper.refl (B : Nat) (w : World) : Upper B w w := ⟨Nat.le_refl _, fun _ _ _ => rfl⟩
theorem Later.upper {w w' : World} (h : Later w w') (B : Nat) : Upper B w w' := ⟨h.size, fun k _ hk => h.block k hk⟩
theorem Upper.cell {B : Nat} {w w' : World} (h : Upper B w w') {a : Addr} {v : Value} (hc : w.cell? a = some v) (ha : B ≤ a.block) : w'.cell? a = some v :=
  cell_keep hc (h.2 _ ha (World.block_lt_of_cell? w a hc))
theorem Upper.frozen {B : Nat} {w w' : World} (h : Upper B w w') {a : Addr} {v : Value} (hc : w.cell? a = some v) (hf : w.frozen? a = false) (ha : B ≤ a.block) : w'.frozen? a = false :=
  (World.frozen?_of_block (h.2 _ ha (World.block_lt_of_cell? w a hc))).trans hf

/-- The first i rows of a grid of n rows are laid; their blocks lie below hi. -/
def GridAt (lo hi : Nat) (w : World) (gb n i : Nat) (zss : List (List Int)) : Prop :=
  lo ≤ gb ∧ gb < hi ∧ ∃ xs us : List Value, w.ownsRow lo 28 1 (.slice (some ⟨gb, 0, none⟩) n n) n xs ∧ us.length = i ∧ xs.take i = us ∧ (∀ r, r < i → OwnInts lo hi w (us.getD r undef) (zss.getD r [])) ∧
    ∀ r s, r < s → s < i → ∀ b, (us.getD r undef).ownBlock = some b → (us.getD s undef).ownBlock ≠ some b
theorem GridAt.keep {lo hi : Nat} {w w' : World} {gb n i : Nat} {zss : List (List Int)} (h : GridAt lo hi w gb n i zss) (k : ∀ b, lo ≤ b → b < hi → w'.heap[b]? = w.heap[b]?) : GridAt lo hi w' gb n i zss := by
  obtain ⟨h1, h2, xs, us, ho, hl, hx, hin, hd⟩ := h
  refine ⟨h1, h2, xs, us, ownsRow_keep ho fun b hb => ?_, hl, hx, fun r hr => (hin r hr).keep k, hd⟩
  simp [Value.ownBlock] at hb
  subst hb
  exact k gb h1 h2
theorem GridAt.at {lo hi : Nat} {w : World} {gb n i : Nat} {zss : List (List Int)} (h : GridAt lo hi w gb n i zss) (hi' : i < n) : (∃ u, w.cell? ⟨gb, i, none⟩ = some u) ∧ w.frozen? ⟨gb, i, none⟩ = false := by
  obtain ⟨h1, h2, xs, us, ho, hl, hx, hin, hd⟩ := h
  have hl : xs.length = n := by have := ho.1; simpa using this
  refine ⟨⟨xs[i]'(by omega), ?_⟩, ho.frozenAt i⟩
  rw [ho.cellAt i (by omega)]; simp [hl, hi']
/-- A store into the grid at a row that is not laid yet. -/
theorem GridAt.store {lo hi : Nat} {w : World} {gb n i : Nat} {zss : List (List Int)} (h : GridAt lo hi w gb n i zss) (u : Value) : GridAt lo hi (w.setCell ⟨gb, i, none⟩ u) gb n i zss := by
  obtain ⟨h1, h2, xs, us, ho, hl, hx, hin, hd⟩ := h
  have hn : xs.length = n := by have := ho.1; simpa using this
  obtain ⟨cur, hcur⟩ := ownsRow_head ho
  exact ⟨h1, h2, xs.set i u, us, (ho.stored i u).1, hl, by rw [List.take_set_of_le (Nat.le_refl _), hx], fun r hr => (hin r hr).setCell ((hin r hr).ne hcur) u, hd⟩
theorem GridAt.next {lo hi hi' : Nat} {w : World} {gb n i : Nat} {zss : List (List Int)} {u : Value} (h : GridAt lo hi w gb n i zss) (hin' : i < n) (hc : w.cell? ⟨gb, i, none⟩ = some u) (hu : OwnInts lo hi' w u (zss.getD i []))
    (hb : ∀ b, u.ownBlock = some b → hi ≤ b) (hh : hi ≤ hi') : GridAt lo hi' w gb n (i + 1) zss := by
  obtain ⟨h1, h2, xs, us, ho, hl, hx, hin, hd⟩ := h
  have hn : xs.length = n := by have := ho.1; simpa using this
  have hxi : xs[i]? = some u := by rw [← hc, ho.cellAt i (by omega)]
  refine ⟨h1, by omega, xs, us ++ [u], ho, by simp [hl], by rw [List.take_add_one, hx, hxi]; rfl, ?_, ?_⟩
  · intro r hr
    by_cases hri : r = i
    · subst hri
      rw [show (us ++ [u]).getD r undef = u by simp [← hl]]
      exact hu
    · rw [show (us ++ [u]).getD r undef = us.getD r undef by simp [List.getElem?_append_left (show r < us.length by omega)]]
      exact (hin r (by omega)).wide (Nat.le_refl _) hh
  · intro r s hrs hs b hbr
    rw [show (us ++ [u]).getD r undef = us.getD r undef by simp [List.getElem?_append_left (show r < us.length by omega)]] at hbr
    by_cases hsi : s = i
    · subst hsi
      rw [show (us ++ [u]).getD s undef = u by simp [← hl]]
      intro hbs
      have := (hin r hrs).2 b hbr
      have := hb b hbs
      omega
    · rw [show (us ++ [u]).getD s undef = us.getD s undef by simp [List.getElem?_append_left (show s < us.length by omega)]]
      exact hd r s hrs (by omega) b hbr
theorem GridAt.full {lo hi : Nat} {w : World} {gb : Nat} {zss : List (List Int)} (h : GridAt lo hi w gb zss.length zss.length zss) : OwnRows lo hi w (.slice (some ⟨gb, 0, none⟩) zss.length zss.length) zss := by
  obtain ⟨h1, h2, xs, us, ho, hl, hx, hin, hd⟩ := h
  have hn : xs.length = zss.length := by have := ho.1; simpa using this
  rw [List.take_of_length_le (by omega)] at hx
  subst hx
  exact ⟨xs, hl, by rw [hl]; exact ho, fun b hb => by simp [Value.ownBlock] at hb; omega, hin, hd⟩

theorem Filled.at_upper {lo B : Nat} {e : TypeId} {w w5 : World} {g n cap k : Nat} {us : List Value} (h : Filled lo e w (.slice (some ⟨g, 0, none⟩) n cap) n k us) (hU : Upper B w.drew w5) (hB : B ≤ g) (hk : k < n) :
    (∃ u, w5.cell? ⟨g, k, none⟩ = some u) ∧ w5.frozen? ⟨g, k, none⟩ = false := by
  obtain ⟨⟨u, hu⟩, hf⟩ := h.at hk
  exact ⟨⟨u, hU.cell (w := w.drew) hu hB⟩, hU.frozen (w := w.drew) hu hf hB⟩
theorem Filled.step_upper {lo B : Nat} {e : TypeId} {w w5 : World} {g n cap k : Nat} {us : List Value} {u : Value} (h : Filled lo e w (.slice (some ⟨g, 0, none⟩) n cap) n k us) (hU : Upper B w.drew w5) (hB : B ≤ g) (hg : g < w.heap.size) (hk : k < n) (hu : us[k]? = some u) :
    Filled lo e (w5.setCell ⟨g, k, none⟩ u) (.slice (some ⟨g, 0, none⟩) n cap) n (k + 1) us := by
  refine (h.keep (w' := w5) fun b hb => ?_).step hk hu
  simp [Value.ownBlock] at hb
  subst hb
  exact hU.2 _ hB hg
theorem GridAt.step_upper {lo hi : Nat} {w w5 : World} {gb n i j : Nat} {zss : List (List Int)} {u : Value} (h : GridAt lo hi w gb n i zss) (hU : Upper lo w.drew w5) (hh : hi < w.heap.size) : GridAt lo hi (w5.setCell ⟨hi, j, none⟩ u) gb n i zss :=
  h.keep fun b hb hb2 => (heap_setCell_other w5 ⟨hi, j, none⟩ b u (by simp; omega)).trans (hU.2 b hb (by simp; omega))
def GridRes (n : Nat) (f : Nat → Nat → Int) (J : Nat → World → Prop) (w : World) (e : Ending) (w' : World) : Prop :=
  ∃ v, e = .returned v ∧ OwnRows w.heap.size w'.heap.size w' v (mk n f) ∧ J (n * n) w'

end Go.Proofs.Ytcgdegmhajfbaac
