/- Grid, Unit, Unit2, Ans, Ans2: in one text. -/
import Derived.Test.YtoaopmafokoaoaaBasA
import Derived.Deep.RegionHeld3
import Derived.Deep.AppendLies
import Derived.Deep.OwnRows
import Derived.Deep.RegionLaw
namespace Go.Proofs.Ytoaopmafokoaoaa
open Go.RowKit


/-- A sum as the program makes it: from the left, wrapping. -/
def wsum (f : Nat → Int) : Nat → Int
  | 0 => 0
  | k + 1 => wrap64 (wsum f k + f k)
theorem wsum_succ (f : Nat → Int) (k : Nat) : wsum f (k + 1) = wrap64 (wsum f k + f k) := rfl
theorem wsum_congr (f g : Nat → Int) (n : Nat) (h : ∀ i, i < n → f i = g i) : wsum f n = wsum g n := by
  induction n with
  | zero => rfl
  | succ n ih => rw [wsum_succ, wsum_succ, ih (fun i hi => h i (by omega)), h n (by omega)]

set_option maxHeartbeats 400000 in
theorem sumOver_any (v : Value) (zs : List Int) (F : Nat) (caps : Array Value) (f : Nat → Int) (w : World) (eg : ∀ args w, (callFunc F args).run Try.prog w = .ok (.enter F args) w) (h : Ints w v zs)
    (hF : ∀ i w1, i < zs.length → Later w w1 → Calls Try.prog F (#[.int .i64 i, .int .i64 (zs.getD i 0)] ++ caps) w1 fun e w2 => e = .returned (.int .i64 (f i)) ∧ Later w1 w2) :
    Calls Try.prog 147 #[v, .func (.func F) #[] caps] w fun e w' => e = .returned (.int .i64 (wsum f zs.length)) ∧ Later w w' := by
  obtain ⟨a, cap, rfl, hl, hc⟩ := h
  have HC := hid hc; clear hc
  have HF := hid hF; clear hF
  go_enter Try.func147, Try.ntmps147
  go_wp2_with fail
  go_loopw [5, 10] (fun s i wr => ∃ k : Nat, k ≤ zs.length ∧ i = .int .i64 k ∧ s = .int .i64 (wsum f k) ∧ Later w wr) (fun _ i _ => zs.length - (intOf i).toNat)
  case atStart => exact ⟨0, Nat.zero_le _, rfl, rfl, Later.refl w⟩
  case round =>
    obtain ⟨k, hk, rfl, rfl, hal⟩ := hrel
    by_cases hlt : k < zs.length
    · obtain ⟨ad, rfl, hcell⟩ := HC.out k hlt
      have hcellr := hal.cell hcell
      have hcall := HF.out k wr hlt hal
      rw [getD_at zs k hlt] at hcellr hcall
      have HCALL := hid hcall
      have HAL := hid hal
      clear hcall hal hcell
      go_wp2_with fail
      refine HCALL.out.mono ?_
      rintro e w2 ⟨rfl, hL⟩
      have HL := hid (HAL.out.trans hL)
      clear hL
      go_wp2_with fail
      go_roundw
      case rel => exact ⟨k + 1, hlt, by go_num, rfl, HL.out⟩
      case measure => simp [intOf]; omega
    · go_wp2_with fail
      go_ret
      have : k = zs.length := by omega
      subst this
      exact ⟨rfl, hal⟩

/-! ### gridOf -/

theorem Filled.keep {lo : Nat} {e : TypeId} {w w' : World} {v : Value} {n k : Nat} {us : List Value} (h : Filled lo e w v n k us) (hk : ∀ b, v.ownBlock = some b → w'.heap[b]? = w.heap[b]?) : Filled lo e w' v n k us := by
  obtain ⟨xs, ho, hx⟩ := h
  exact ⟨xs, ownsRow_keep ho hk, hx⟩

def mk (n : Nat) (f : Nat → Nat → Int) : List (List Int) := (List.range n).map fun i => (List.range n).map fun j => f i j
theorem mk_length (n : Nat) (f : Nat → Nat → Int) : (mk n f).length = n := by simp [mk]
theorem mk_row (n : Nat) (f : Nat → Nat → Int) (i : Nat) (h : i < n) : (mk n f).getD i [] = (List.range n).map (f i) := by simp [mk, h]
theorem mk_congr (n : Nat) (f g : Nat → Nat → Int) (h : ∀ i j, i < n → j < n → f i j = g i j) : mk n f = mk n g := by
  unfold mk
  exact List.map_congr_left fun i hi => List.map_congr_left fun j hj => h i j (List.mem_range.1 hi) (List.mem_range.1 hj)

/-- Blocks from B on that were there are as they were. -/
def Upper (B : Nat) (w w' : World) : Prop := w.heap.size ≤ w'.heap.size ∧ ∀ k, B ≤ k → k < w.heap.size → w'.heap[k]? = w.heap[k]?
theorem Upper.refl (B : Nat) (w : World) : Upper B w w := ⟨Nat.le_refl _, fun _ _ _ => rfl⟩
theorem Later.upper {w w' : World} (h : Later w w') (B : Nat) : Upper B w w' := ⟨h.size, fun k _ hk => h.block k hk⟩
theorem Upper.cell {B : Nat} {w w' : World} (h : Upper B w w') {a : Addr} {v : Value} (hc : w.cell? a = some v) (ha : B ≤ a.block) : w'.cell? a = some v :=
  cell_keep hc (h.2 _ ha (World.block_lt_of_cell? w a hc))
theorem Upper.frozen {B : Nat} {w w' : World} (h : Upper B w w') {a : Addr} {v : Value} (hc : w.cell? a = some v) (hf : w.frozen? a = false) (ha : B ≤ a.block) : w'.frozen? a = false :=
  (World.frozen?_of_block (h.2 _ ha (World.block_lt_of_cell? w a hc))).trans hf

/-- The first i rows of a grid of n rows are laid; their blocks lie below hi. -/
def GridAt (lo hi : Nat) (w : World) (gb n i : Nat) (zss : List (List Int)) : Prop :=
  lo ≤ gb ∧ gb < hi ∧ ∃ xs us : List Value, w.ownsRow lo 24 1 (.slice (some ⟨gb, 0, none⟩) n n) n xs ∧ us.length = i ∧ xs.take i = us ∧ (∀ r, r < i → OwnInts lo hi w (us.getD r undef) (zss.getD r [])) ∧
    ∀ r s, r < s → s < i → ∀ b, (us.getD r undef).ownBlock = some b → (us.getD s undef).ownBlock ≠ some b
theorem GridAt.keep {lo hi : Nat} {w w' : World} {gb n i : Nat} {zss : List (List Int)} (h : GridAt lo hi w gb n i zss) (k : ∀ b, lo ≤ b → b < hi → w'.heap[b]? = w.heap[b]?) : GridAt lo hi w' gb n i zss := by
  obtain ⟨h1, h2, xs, us, ho, hl, hx, hin, hd⟩ := h
  refine ⟨h1, h2, xs, us, ownsRow_keep ho fun b hb => ?_, hl, hx, fun r hr => (hin r hr).keep k, hd⟩
  simp [Value.ownBlock] at hb
  subst hb
  exact k gb h1 h2
theorem GridAt.at {lo hi : Nat} {w : World} {gb n i : Nat} {zss : List (List Int)} (h : GridAt lo hi w gb n i zss) (hi' : i < n) : (∃ u, w.cell? ⟨gb, i, none⟩ = some u) ∧ w.frozen? ⟨gb, i, none⟩ = false := by
  obtain ⟨h1, h2, xs, us, ho, hl, hx, hin, hd⟩ := h
  have hl : xs.length = n := by have := ho.1; simpa using this
  refine ⟨⟨xs[i]'(by omega), ?_⟩, ho.frozenAt i⟩
  rw [ho.cellAt i (by omega)]; simp [hl, hi']
/-- A store into the grid at a row that is not laid yet. -/
theorem GridAt.store {lo hi : Nat} {w : World} {gb n i : Nat} {zss : List (List Int)} (h : GridAt lo hi w gb n i zss) (u : Value) : GridAt lo hi (w.setCell ⟨gb, i, none⟩ u) gb n i zss := by
  obtain ⟨h1, h2, xs, us, ho, hl, hx, hin, hd⟩ := h
  have hn : xs.length = n := by have := ho.1; simpa using this
  obtain ⟨cur, hcur⟩ := ownsRow_head ho
  exact ⟨h1, h2, xs.set i u, us, (ho.stored i u).1, hl, by rw [List.take_set_of_le (Nat.le_refl _), hx], fun r hr => (hin r hr).setCell ((hin r hr).ne hcur) u, hd⟩
theorem GridAt.next {lo hi hi' : Nat} {w : World} {gb n i : Nat} {zss : List (List Int)} {u : Value} (h : GridAt lo hi w gb n i zss) (hin' : i < n) (hc : w.cell? ⟨gb, i, none⟩ = some u) (hu : OwnInts lo hi' w u (zss.getD i []))
    (hb : ∀ b, u.ownBlock = some b → hi ≤ b) (hh : hi ≤ hi') : GridAt lo hi' w gb n (i + 1) zss := by
  obtain ⟨h1, h2, xs, us, ho, hl, hx, hin, hd⟩ := h
  have hn : xs.length = n := by have := ho.1; simpa using this
  have hxi : xs[i]? = some u := by rw [← hc, ho.cellAt i (by omega)]
  refine ⟨h1, by omega, xs, us ++ [u], ho, by simp [hl], by rw [List.take_add_one, hx, hxi]; rfl, ?_, ?_⟩
  · intro r hr
    by_cases hri : r = i
    · subst hri
      rw [show (us ++ [u]).getD r undef = u by simp [← hl]]
      exact hu
    · rw [show (us ++ [u]).getD r undef = us.getD r undef by simp [List.getElem?_append_left (show r < us.length by omega)]]
      exact (hin r (by omega)).wide (Nat.le_refl _) hh
  · intro r s hrs hs b hbr
    rw [show (us ++ [u]).getD r undef = us.getD r undef by simp [List.getElem?_append_left (show r < us.length by omega)]] at hbr
    by_cases hsi : s = i
    · subst hsi
      rw [show (us ++ [u]).getD s undef = u by simp [← hl]]
      intro hbs
      have := (hin r hrs).2 b hbr
      have := hb b hbs
      omega
    · rw [show (us ++ [u]).getD s undef = us.getD s undef by simp [List.getElem?_append_left (show s < us.length by omega)]]
      exact hd r s hrs (by omega) b hbr
theorem GridAt.full {lo hi : Nat} {w : World} {gb : Nat} {zss : List (List Int)} (h : GridAt lo hi w gb zss.length zss.length zss) : OwnRows lo hi w (.slice (some ⟨gb, 0, none⟩) zss.length zss.length) zss := by
  obtain ⟨h1, h2, xs, us, ho, hl, hx, hin, hd⟩ := h
  have hn : xs.length = zss.length := by have := ho.1; simpa using this
  rw [List.take_of_length_le (by omega)] at hx
  subst hx
  exact ⟨xs, hl, by rw [hl]; exact ho, fun b hb => by simp [Value.ownBlock] at hb; omega, hin, hd⟩

theorem Filled.at_upper {lo B : Nat} {e : TypeId} {w w5 : World} {g n cap k : Nat} {us : List Value} (h : Filled lo e w (.slice (some ⟨g, 0, none⟩) n cap) n k us) (hU : Upper B w.drew w5) (hB : B ≤ g) (hk : k < n) :
    (∃ u, w5.cell? ⟨g, k, none⟩ = some u) ∧ w5.frozen? ⟨g, k, none⟩ = false := by
  obtain ⟨⟨u, hu⟩, hf⟩ := h.at hk
  exact ⟨⟨u, hU.cell (w := w.drew) hu hB⟩, hU.frozen (w := w.drew) hu hf hB⟩
theorem Filled.step_upper {lo B : Nat} {e : TypeId} {w w5 : World} {g n cap k : Nat} {us : List Value} {u : Value} (h : Filled lo e w (.slice (some ⟨g, 0, none⟩) n cap) n k us) (hU : Upper B w.drew w5) (hB : B ≤ g) (hg : g < w.heap.size) (hk : k < n) (hu : us[k]? = some u) :
    Filled lo e (w5.setCell ⟨g, k, none⟩ u) (.slice (some ⟨g, 0, none⟩) n cap) n (k + 1) us := by
  refine (h.keep (w' := w5) fun b hb => ?_).step hk hu
  simp [Value.ownBlock] at hb
  subst hb
  exact hU.2 _ hB hg
theorem GridAt.step_upper {lo hi : Nat} {w w5 : World} {gb n i j : Nat} {zss : List (List Int)} {u : Value} (h : GridAt lo hi w gb n i zss) (hU : Upper lo w.drew w5) (hh : hi < w.heap.size) : GridAt lo hi (w5.setCell ⟨hi, j, none⟩ u) gb n i zss :=
  h.keep fun b hb hb2 => (heap_setCell_other w5 ⟨hi, j, none⟩ b u (by simp; omega)).trans (hU.2 b hb (by simp; omega))
def GridRes (n : Nat) (f : Nat → Nat → Int) (J : Nat → World → Prop) (w : World) (e : Ending) (w' : World) : Prop :=
  ∃ v, e = .returned v ∧ OwnRows w.heap.size w'.heap.size w' v (mk n f) ∧ J (n * n) w'

/-- What a function that answers a matrix and a bool leaves: o's rows, if there are any. -/
def MatAns (w : World) (o : Option (List (List Int))) (e : Ending) (w' : World) : Prop :=
  ∃ v, e = .returned (.tuple #[.agg #[v], .bool o.isSome]) ∧ OwnRows w.heap.size w'.heap.size w' v (o.getD []) ∧ Later w w'

theorem OwnRows.empty (lo hi : Nat) (w : World) : OwnRows lo hi w (.slice none 0 0) [] :=
  ⟨[], rfl, World.ownsRow_nil _ _ _ _, fun b hb => by simp [Value.ownBlock] at hb, fun i hi => absurd hi (Nat.not_lt_zero i), fun i j _ hj => absurd hj (Nat.not_lt_zero j)⟩

theorem OwnRows.pushed {lo : Nat} {w w1 : World} {v v' u : Value} {us : List Value} {L : List (List Int)} {r : List Int} {h0 : Nat} (hl : us.length = L.length) (ho : w.ownsRow lo 24 1 v us.length us)
    (hin : ∀ i, i < L.length → OwnInts lo h0 w (us.getD i undef) (L.getD i [])) (hd : ∀ i j, i < j → j < L.length → ∀ k, (us.getD i undef).ownBlock = some k → (us.getD j undef).ownBlock ≠ some k)
    (hu : OwnInts h0 w.heap.size w u r) (hlo : lo ≤ h0) (ho1 : w1.ownsRow lo 24 1 v' (us.length + 1) (us ++ [u])) (hg : w.grownBy w1 v.ownBlock) : OwnRows lo w1.heap.size w1 v' (L ++ [r]) := by
  have keep : ∀ (a : Value) (zs : List Int) (lo' hi' : Nat), OwnInts lo' hi' w a zs → OwnInts lo' hi' w1 a zs := by
    intro a zs lo' hi' h
    refine ⟨ownsRow_keep h.1 fun b hb => hg.block b (h.1.lt b hb).2 fun e => ?_, h.2⟩
    obtain ⟨c1, hc1⟩ := ownsRow_block h.1 hb
    obtain ⟨c2, hc2⟩ := ownsRow_block ho e.symm
    rw [hc1] at hc2
    simp at hc2
  refine ⟨us ++ [u], by simp [hl], by rw [List.length_append]; exact ho1, fun b hb => (ho1.lt b hb).2, ?_, ?_⟩
  · intro i hi
    by_cases hil : i = L.length
    · subst hil
      rw [show (us ++ [u]).getD L.length undef = u by simp [← hl], show (L ++ [r]).getD L.length [] = r by simp]
      exact (keep _ _ _ _ hu).wide hlo hg.size
    · have hi' : i < L.length := by simp at hi; omega
      rw [show (us ++ [u]).getD i undef = us.getD i undef by simp [List.getElem?_append_left (show i < us.length by omega)], show (L ++ [r]).getD i [] = L.getD i [] by simp [List.getElem?_append_left hi']]
      have h1 := keep _ _ _ _ (hin i hi')
      exact ⟨h1.1, fun b hb => (h1.1.lt b hb).2⟩
  · intro i j hij hj b hb
    have hj' : j < L.length + 1 := by simpa using hj
    rw [show (us ++ [u]).getD i undef = us.getD i undef by simp [List.getElem?_append_left (show i < us.length by omega)]] at hb
    by_cases hjl : j = L.length
    · subst hjl
      rw [show (us ++ [u]).getD L.length undef = u by simp [← hl]]
      intro hb2
      have h1 := (hin i hij).2 b hb
      have h2 := (hu.1.lt b hb2).1
      omega
    · rw [show (us ++ [u]).getD j undef = us.getD j undef by simp [List.getElem?_append_left (show j < us.length by omega)]]
      exact hd i j hij (by omega) b hb

theorem madeInts (w : World) (n : Nat) (hn : n ≤ 1048576) : OwnInts w.heap.size (w.heap.size + 1) (w.alloc (.cells (madeCells #[Value.int .i64 0] n) 3)) (.slice (some ⟨w.heap.size, 0, none⟩) n n) (List.replicate n 0) := by
  have h := World.ownsRow_lit (e := 3) (size := 1) w (madeCells #[Value.int .i64 0] n) n (Nat.le_refl _) (by unfold maxLen; omega) (by simp [size_madeCells])
  rw [toList_madeCells_one] at h
  refine ⟨by simpa using h, fun b hb => by simp [Value.ownBlock] at hb; omega⟩

/-- A variable of one cell, in block b, holds v and may be written. -/
def Box (w : World) (b : Nat) (v : Value) : Prop := w.cell? ⟨b, 0, none⟩ = some v ∧ w.frozen? ⟨b, 0, none⟩ = false
theorem Box.later {w w' : World} {b : Nat} {v : Value} (h : Box w b v) (k : Later w w') : Box w' b v := ⟨k.cell h.1, k.frozen h.1 h.2⟩
theorem Box.keep {w w' : World} {b : Nat} {v : Value} (h : Box w b v) (k : w'.heap[b]? = w.heap[b]?) : Box w' b v :=
  ⟨cell_keep h.1 k, (World.frozen?_of_block (a := ⟨b, 0, none⟩) k).trans h.2⟩
theorem Box.lt {w : World} {b : Nat} {v : Value} (h : Box w b v) : b < w.heap.size := World.block_lt_of_cell? w ⟨b, 0, none⟩ h.1
theorem Box.set {w : World} {b : Nat} {v : Value} (h : Box w b v) (u : Value) : Box (w.setCell ⟨b, 0, none⟩ u) b u :=
  ⟨World.cell?_setCell_same _ _ _ h.1, by rw [World.frozen?_setCell]; exact h.2⟩
theorem Box.other {w : World} {b : Nat} {v : Value} (h : Box w b v) {a : Addr} (ha : a.block ≠ b) (u : Value) : Box (w.setCell a u) b v :=
  h.keep (heap_setCell_other w a b u (fun e => ha e.symm))

theorem Box.grown {w w1 : World} {b : Nat} {v u : Value} (h : Box w b v) (hg : w.grownBy w1 u.ownBlock) (hb : u.ownBlock = some b → False) : Box w1 b v :=
  h.keep (hg.block b h.lt fun e => hb e.symm)

def zeroM (k n : Nat) : List (List Int) := List.replicate k (List.replicate n 0)
theorem zeroM_succ (k n : Nat) : zeroM (k + 1) n = zeroM k n ++ [List.replicate n 0] := by simp [zeroM, List.replicate_succ']

def eqI (i j : Nat) : Int := if i = j then 1 else 0
def unitM (n : Nat) : List (List Int) := mk n eqI
theorem unitM_row (n i : Nat) (h : i < n) : (unitM n).getD i [] = (List.replicate n (0 : Int)).set i 1 := by
  unfold unitM
  rw [mk_row n _ i h]
  apply List.ext_getElem
  · simp
  · intro j h1 h2
    simp at h1
    by_cases hij : i = j
    · subst hij; simp [eqI]
    · simp [eqI, hij, List.getElem_set_ne hij]

/-- A row of ints of the call's own that has an element: its block, the cell, and what a store there leaves. -/
theorem OwnInts.cell {lo hi : Nat} {w : World} {u : Value} {zs : List Int} (h : OwnInts lo hi w u zs) {i : Nat} (hi' : i < zs.length) :
    ∃ g cap, u = .slice (some ⟨g, 0, none⟩) zs.length cap ∧ lo ≤ g ∧ g < hi ∧ w.cell? ⟨g, i, none⟩ = some (.int .i64 (zs.getD i 0)) ∧ w.frozen? ⟨g, i, none⟩ = false ∧
      ∀ x, OwnInts lo hi (w.setCell ⟨g, i, none⟩ (.int .i64 x)) u (zs.set i x) ∧ Wrote (fun b => u.ownBlock = some b) w (w.setCell ⟨g, i, none⟩ (.int .i64 x)) := by
  rcases h.form with ⟨_, rfl⟩ | ⟨g, cap, rfl⟩
  · simp at hi'
  · have ho := h.1
    have hb := h.blk (b := g) rfl
    refine ⟨g, cap, rfl, hb.1, hb.2, ?_, ho.frozenAt i, fun x => ⟨⟨?_, fun k hk => h.2 k hk⟩, Wrote.setCell w ⟨g, i, none⟩ _ rfl⟩⟩
    · rw [ho.cellAt i (by omega)]; simp [hi']
    · have := (ho.stored i (.int .i64 x)).1
      rw [List.length_set, List.map_set]
      exact this

/-- The first i rows of a grid of the call's own are as in M, the others as in Z. -/
def Mixed (lo hi : Nat) (w0 w : World) (v : Value) (M Z : List (List Int)) (i : Nat) : Prop :=
  ∃ L, L.length = Z.length ∧ L.take i = M.take i ∧ L.drop i = Z.drop i ∧ OwnRows lo hi w v L ∧ Wrote (fun b => lo ≤ b ∧ b < hi) w0 w
theorem Mixed.start {lo hi : Nat} {w : World} {v : Value} {M Z : List (List Int)} (h : OwnRows lo hi w v Z) : Mixed lo hi w w v M Z 0 := ⟨Z, rfl, by simp, rfl, h, Wrote.refl _ _⟩
theorem Mixed.full {lo hi : Nat} {w0 w : World} {v : Value} {M Z : List (List Int)} (h : Mixed lo hi w0 w v M Z Z.length) (hM : M.length = Z.length) : OwnRows lo hi w v M := by
  obtain ⟨L, hl, ht, hd, ho, hW⟩ := h
  rw [List.take_of_length_le (by omega), List.take_of_length_le (by omega)] at ht
  subst ht
  exact ho
theorem Mixed.row {lo hi : Nat} {w0 w : World} {v : Value} {M Z : List (List Int)} {i : Nat} (h : Mixed lo hi w0 w v M Z i) (hi' : i < Z.length) (hM : M.length = Z.length) :
    ∃ g cap u, v = .slice (some ⟨g, 0, none⟩) Z.length cap ∧ w.cell? ⟨g, i, none⟩ = some u ∧ OwnInts lo hi w u (Z.getD i []) ∧
      ∀ w2, OwnInts lo hi w2 u (M.getD i []) → Wrote (fun b => u.ownBlock = some b) w w2 → Mixed lo hi w0 w2 v M Z (i + 1) := by
  obtain ⟨L, hl, ht, hd, ho, hW⟩ := h
  have hLj : L.getD i [] = Z.getD i [] := by
    have h1 : (L.drop i).head? = (Z.drop i).head? := by rw [hd]
    simp only [List.head?_drop] at h1
    simp [List.getD_eq_getElem?_getD, h1]
  obtain ⟨g, cap, u, hv, hc, hu, hstep⟩ := ho.row (i := i) (by omega)
  rw [hLj] at hu
  rw [addr_add0] at hc
  refine ⟨g, cap, u, by rw [hv, hl], hc, hu, fun w2 h2 hW2 => ⟨L.set i (M.getD i []), by simp [hl], ?_, ?_, hstep w2 _ h2 hW2, hW.trans (hW2.mono fun b hb => hu.blk hb)⟩⟩
  · rw [List.take_succ_eq_append_getElem (by simp; omega), List.take_set_of_le (Nat.le_refl _), ht, take_snoc M i (by omega)]
    simp [show i < M.length by omega]
  · rw [List.drop_set_of_lt (by omega), ← List.drop_drop, hd, List.drop_drop]

/-- what matrixOf makes of a grid -/
def ifGood (zss : List (List Int)) : Option (List (List Int)) := if goodM 1000000 zss then some zss else none
def PickMat (w : World) (v : Value) (zss : List (List Int)) (e : Ending) (w' : World) : Prop :=
  e = .returned (.tuple #[.agg #[if goodM 1000000 zss then v else .slice none 0 0], .bool (goodM 1000000 zss)]) ∧ Later w w'

def unitAns (n : Int) : Option (List (List Int)) := if 1 ≤ n ∧ n ≤ 4 then some (unitM n.toNat) else none
theorem unitAns_good (n : Nat) (h1 : 1 ≤ n) (h2 : n ≤ 4) : ifGood (unitM n) = some (unitM n) := by
  unfold ifGood
  rw [if_pos]
  have : n = 1 ∨ n = 2 ∨ n = 3 ∨ n = 4 := by omega
  rcases this with rfl | rfl | rfl | rfl <;> decide

def BoolRes (w : World) (o : Bool) (e : Ending) (w' : World) : Prop := e = .returned (.bool o) ∧ Later w w'
def BoolAns (w : World) (o : Option Bool) (e : Ending) (w' : World) : Prop := e = .returned (.tuple #[.bool (o.getD false), .bool o.isSome]) ∧ Later w w'
def NumAns (w : World) (o : Option Int) (e : Ending) (w' : World) : Prop := e = .returned (.tuple #[.int .i64 (o.getD 0), .bool o.isSome]) ∧ Later w w'
def IntsAns (w : World) (o : Option (List Int)) (e : Ending) (w' : World) : Prop :=
  ∃ v, e = .returned (.tuple #[v, .bool o.isSome]) ∧ OwnInts w.heap.size w'.heap.size w' v (o.getD []) ∧ Later w w'
theorem eqLL_self (xs : List (List Int)) : eqLL xs xs = true := by simp [eqLL]
theorem eqL_self (xs : List Int) : eqL xs xs = true := by simp [eqL]


def RowsAns (w : World) (o : Option (List (List Int))) (e : Ending) (w' : World) : Prop :=
  ∃ v, e = .returned (.tuple #[v, .bool o.isSome]) ∧ OwnRows w.heap.size w'.heap.size w' v (o.getD []) ∧ Later w w'
end Go.Proofs.Ytoaopmafokoaoaa
