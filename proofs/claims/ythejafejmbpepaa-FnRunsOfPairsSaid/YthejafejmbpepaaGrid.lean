/- Contracts of the generic helpers of the program that take a function value: sumOver, gridOf; for whatever function value that answers by a function of the indices. -/
import Derived.Test.YthejafejmbpepaaGood
import Derived.Deep.RegionHeld3
namespace Go.Proofs.Ythejafejmbpepaa
open Go.RowKit

/-- A sum as the program makes it: from the left, wrapping. -/
def wsum (f : Nat → Int) : Nat → Int
  | 0 => 0
  | k + 1 => wrap64 (wsum f k + f k)
theorem wsum_succ (f : Nat → Int) (k : Nat) : wsum f (k + 1) = wrap64 (wsum f k + f k) := rfl
theorem wsum_congr (f g : Nat → Int) (n : Nat) (h : ∀ i, i < n → f i = g i) : wsum f n = wsum g n := by
  induction n with
  | zero => rfl
  | succ n ih => rw [wsum_succ, wsum_succ, ih (fun i hi => h i (by omega)), h n (by omega)]

set_option maxHeartbeats 400000 in
theorem sumOver_any (v : Value) (zs : List Int) (F : Nat) (caps : Array Value) (f : Nat → Int) (w : World) (eg : ∀ args w, (callFunc F args).run Try.prog w = .ok (.enter F args) w) (h : Ints w v zs)
    (hF : ∀ i w1, i < zs.length → Later w w1 → Calls Try.prog F (#[.int .i64 i, .int .i64 (zs.getD i 0)] ++ caps) w1 fun e w2 => e = .returned (.int .i64 (f i)) ∧ Later w1 w2) :
    Calls Try.prog 87 #[v, .func (.func F) #[] caps] w fun e w' => e = .returned (.int .i64 (wsum f zs.length)) ∧ Later w w' := by
  obtain ⟨a, cap, rfl, hl, hc⟩ := h
  have HC := hid hc; clear hc
  have HF := hid hF; clear hF
  go_enter Try.func87, Try.ntmps87
  go_wp2_with fail
  go_loopw [5, 10] (fun s i wr => ∃ k : Nat, k ≤ zs.length ∧ i = .int .i64 k ∧ s = .int .i64 (wsum f k) ∧ Later w wr) (fun _ i _ => zs.length - (intOf i).toNat)
  case atStart => exact ⟨0, Nat.zero_le _, rfl, rfl, Later.refl w⟩
  case round =>
    obtain ⟨k, hk, rfl, rfl, hal⟩ := hrel
    by_cases hlt : k < zs.length
    · obtain ⟨ad, rfl, hcell⟩ := HC.out k hlt
      have hcellr := hal.cell hcell
      have hcall := HF.out k wr hlt hal
      rw [getD_at zs k hlt] at hcellr hcall
      have HCALL := hid hcall
      have HAL := hid hal
      clear hcall hal hcell
      go_wp2_with fail
      refine HCALL.out.mono ?_
      rintro e w2 ⟨rfl, hL⟩
      have HL := hid (HAL.out.trans hL)
      clear hL
      go_wp2_with fail
      go_roundw
      case rel => exact ⟨k + 1, hlt, by go_num, rfl, HL.out⟩
      case measure => simp [intOf]; omega
    · go_wp2_with fail
      go_ret
      have : k = zs.length := by omega
      subst this
      exact ⟨rfl, hal⟩

/-! ### gridOf -/

theorem Filled.keep {lo : Nat} {e : TypeId} {w w' : World} {v : Value} {n k : Nat} {us : List Value} (h : Filled lo e w v n k us) (hk : ∀ b, v.ownBlock = some b → w'.heap[b]? = w.heap[b]?) : Filled lo e w' v n k us := by
  obtain ⟨xs, ho, hx⟩ := h
  exact ⟨xs, ownsRow_keep ho hk, hx⟩

def mk (n : Nat) (f : Nat → Nat → Int) : List (List Int) := (List.range n).map fun i => (List.range n).map fun j => f i j
theorem mk_length (n : Nat) (f : Nat → Nat → Int) : (mk n f).length = n := by simp [mk]
theorem mk_row (n : Nat) (f : Nat → Nat → Int) (i : Nat) (h : i < n) : (mk n f).getD i [] = (List.range n).map (f i) := by simp [mk, h]
theorem mk_congr (n : Nat) (f g : Nat → Nat → Int) (h : ∀ i j, i < n → j < n → f i j = g i j) : mk n f = mk n g := by
  unfold mk
  exact List.map_congr_left fun i hi => List.map_congr_left fun j hj => h i j (List.mem_range.1 hi) (List.mem_range.1 hj)

/-- Blocks from B on that were there are as they were. -/
def Upper (B : Nat) (w w' : World) : Prop := w.heap.size ≤ w'.heap.size ∧ ∀ k, B ≤ k → k < w.heap.size → w'.heap[k]? = w.heap[k]?
theorem Upper.refl (B : Nat) (w : World) : Upper B w w := ⟨Nat.le_refl _, fun _ _ _ => rfl⟩
theorem Later.upper {w w' : World} (h : Later w w') (B : Nat) : Upper B w w' := ⟨h.size, fun k _ hk => h.block k hk⟩
theorem Upper.cell {B : Nat} {w w' : World} (h : Upper B w w') {a : Addr} {v : Value} (hc : w.cell? a = some v) (ha : B ≤ a.block) : w'.cell? a = some v :=
  cell_keep hc (h.2 _ ha (World.block_lt_of_cell? w a hc))
theorem Upper.frozen {B : Nat} {w w' : World} (h : Upper B w w') {a : Addr} {v : Value} (hc : w.cell? a = some v) (hf : w.frozen? a = false) (ha : B ≤ a.block) : w'.frozen? a = false :=
  (World.frozen?_of_block (h.2 _ ha (World.block_lt_of_cell? w a hc))).trans hf

/-- The first i rows of a grid of n rows are laid; their blocks lie below hi. -/
def GridAt (lo hi : Nat) (w : World) (gb n i : Nat) (zss : List (List Int)) : Prop :=
  lo ≤ gb ∧ gb < hi ∧ ∃ xs us : List Value, w.ownsRow lo 34 1 (.slice (some ⟨gb, 0, none⟩) n n) n xs ∧ us.length = i ∧ xs.take i = us ∧ (∀ r, r < i → OwnInts lo hi w (us.getD r undef) (zss.getD r [])) ∧
    ∀ r s, r < s → s < i → ∀ b, (us.getD r undef).ownBlock = some b → (us.getD s undef).ownBlock ≠ some b
theorem GridAt.keep {lo hi : Nat} {w w' : World} {gb n i : Nat} {zss : List (List Int)} (h : GridAt lo hi w gb n i zss) (k : ∀ b, lo ≤ b → b < hi → w'.heap[b]? = w.heap[b]?) : GridAt lo hi w' gb n i zss := by
  obtain ⟨h1, h2, xs, us, ho, hl, hx, hin, hd⟩ := h
  refine ⟨h1, h2, xs, us, ownsRow_keep ho fun b hb => ?_, hl, hx, fun r hr => (hin r hr).keep k, hd⟩
  simp [Value.ownBlock] at hb
  subst hb
  exact k gb h1 h2
theorem GridAt.at {lo hi : Nat} {w : World} {gb n i : Nat} {zss : List (List Int)} (h : GridAt lo hi w gb n i zss) (hi' : i < n) : (∃ u, w.cell? ⟨gb, i, none⟩ = some u) ∧ w.frozen? ⟨gb, i, none⟩ = false := by
  obtain ⟨h1, h2, xs, us, ho, hl, hx, hin, hd⟩ := h
  have hl : xs.length = n := by have := ho.1; simpa using this
  refine ⟨⟨xs[i]'(by omega), ?_⟩, ho.frozenAt i⟩
  rw [ho.cellAt i (by omega)]; simp [hl, hi']
/-- A store into the grid at a row that is not laid yet. -/
theorem GridAt.store {lo hi : Nat} {w : World} {gb n i : Nat} {zss : List (List Int)} (h : GridAt lo hi w gb n i zss) (u : Value) : GridAt lo hi (w.setCell ⟨gb, i, none⟩ u) gb n i zss := by
  obtain ⟨h1, h2, xs, us, ho, hl, hx, hin, hd⟩ := h
  have hn : xs.length = n := by have := ho.1; simpa using this
  obtain ⟨cur, hcur⟩ := ownsRow_head ho
  exact ⟨h1, h2, xs.set i u, us, (ho.stored i u).1, hl, by rw [List.take_set_of_le (Nat.le_refl _), hx], fun r hr => (hin r hr).setCell ((hin r hr).ne hcur) u, hd⟩
theorem GridAt.next {lo hi hi' : Nat} {w : World} {gb n i : Nat} {zss : List (List Int)} {u : Value} (h : GridAt lo hi w gb n i zss) (hin' : i < n) (hc : w.cell? ⟨gb, i, none⟩ = some u) (hu : OwnInts lo hi' w u (zss.getD i []))
    (hb : ∀ b, u.ownBlock = some b → hi ≤ b) (hh : hi ≤ hi') : GridAt lo hi' w gb n (i + 1) zss := by
  obtain ⟨h1, h2, xs, us, ho, hl, hx, hin, hd⟩ := h
  have hn : xs.length = n := by have := ho.1; simpa using this
  have hxi : xs[i]? = some u := by rw [← hc, ho.cellAt i (by omega)]
  refine ⟨h1, by omega, xs, us ++ [u], ho, by simp [hl], by rw [List.take_add_one, hx, hxi]; rfl, ?_, ?_⟩
  · intro r hr
    by_cases hri : r = i
    · subst hri
      rw [show (us ++ [u]).getD r undef = u by simp [← hl]]
      exact hu
    · rw [show (us ++ [u]).getD r undef = us.getD r undef by simp [List.getElem?_append_left (show r < us.length by omega)]]
      exact (hin r (by omega)).wide (Nat.le_refl _) hh
  · intro r s hrs hs b hbr
    rw [show (us ++ [u]).getD r undef = us.getD r undef by simp [List.getElem?_append_left (show r < us.length by omega)]] at hbr
    by_cases hsi : s = i
    · subst hsi
      rw [show (us ++ [u]).getD s undef = u by simp [← hl]]
      intro hbs
      have := (hin r hrs).2 b hbr
      have := hb b hbs
      omega
    · rw [show (us ++ [u]).getD s undef = us.getD s undef by simp [List.getElem?_append_left (show s < us.length by omega)]]
      exact hd r s hrs (by omega) b hbr
theorem GridAt.full {lo hi : Nat} {w : World} {gb : Nat} {zss : List (List Int)} (h : GridAt lo hi w gb zss.length zss.length zss) : OwnRows lo hi w (.slice (some ⟨gb, 0, none⟩) zss.length zss.length) zss := by
  obtain ⟨h1, h2, xs, us, ho, hl, hx, hin, hd⟩ := h
  have hn : xs.length = zss.length := by have := ho.1; simpa using this
  rw [List.take_of_length_le (by omega)] at hx
  subst hx
  exact ⟨xs, hl, by rw [hl]; exact ho, fun b hb => by simp [Value.ownBlock] at hb; omega, hin, hd⟩

theorem Filled.at_upper {lo B : Nat} {e : TypeId} {w w5 : World} {g n cap k : Nat} {us : List Value} (h : Filled lo e w (.slice (some ⟨g, 0, none⟩) n cap) n k us) (hU : Upper B w.drew w5) (hB : B ≤ g) (hk : k < n) :
    (∃ u, w5.cell? ⟨g, k, none⟩ = some u) ∧ w5.frozen? ⟨g, k, none⟩ = false := by
  obtain ⟨⟨u, hu⟩, hf⟩ := h.at hk
  exact ⟨⟨u, hU.cell (w := w.drew) hu hB⟩, hU.frozen (w := w.drew) hu hf hB⟩
theorem Filled.step_upper {lo B : Nat} {e : TypeId} {w w5 : World} {g n cap k : Nat} {us : List Value} {u : Value} (h : Filled lo e w (.slice (some ⟨g, 0, none⟩) n cap) n k us) (hU : Upper B w.drew w5) (hB : B ≤ g) (hg : g < w.heap.size) (hk : k < n) (hu : us[k]? = some u) :
    Filled lo e (w5.setCell ⟨g, k, none⟩ u) (.slice (some ⟨g, 0, none⟩) n cap) n (k + 1) us := by
  refine (h.keep (w' := w5) fun b hb => ?_).step hk hu
  simp [Value.ownBlock] at hb
  subst hb
  exact hU.2 _ hB hg
theorem GridAt.step_upper {lo hi : Nat} {w w5 : World} {gb n i j : Nat} {zss : List (List Int)} {u : Value} (h : GridAt lo hi w gb n i zss) (hU : Upper lo w.drew w5) (hh : hi < w.heap.size) : GridAt lo hi (w5.setCell ⟨hi, j, none⟩ u) gb n i zss :=
  h.keep fun b hb hb2 => (heap_setCell_other w5 ⟨hi, j, none⟩ b u (by simp; omega)).trans (hU.2 b hb (by simp; omega))
def GridRes (n : Nat) (f : Nat → Nat → Int) (J : Nat → World → Prop) (w : World) (e : Ending) (w' : World) : Prop :=
  ∃ v, e = .returned v ∧ OwnRows w.heap.size w'.heap.size w' v (mk n f) ∧ J (n * n) w'

set_option maxHeartbeats 1000000 in
theorem gridOf_any (n : Nat) (F : Nat) (caps : Array Value) (f : Nat → Nat → Int) (J : Nat → World → Prop) (w : World) (hn : n ≤ 1048576)
    (eg : ∀ args w, (callFunc F args).run Try.prog w = .ok (.enter F args) w)
    (h0 : J 0 w) (hJ : ∀ t w1 w2, J t w1 → Below w.heap.size w1 w2 → J t w2)
    (hF : ∀ i j w1, i < n → j < n → J (i * n + j) w1 → w.heap.size ≤ w1.heap.size →
      Calls Try.prog F (#[.int .i64 i, .int .i64 j] ++ caps) w1 fun e w2 => e = .returned (.int .i64 (f i j)) ∧ J (i * n + j + 1) w2 ∧ Upper w.heap.size w1 w2) :
    Calls Try.prog 96 #[.int .i64 n, .func (.func F) #[] caps] w fun e w' => GridRes n f J w e w' := by
  obtain ⟨ii, hii, ii0, ii1, ii2⟩ := info_parts Try.infoInt
  obtain ⟨i0, hi, hz0, hz1, hz2⟩ := info_parts Try.infoInts
  have HB := hid hz2
  have HI := hid ii2
  have HJ := hid hJ
  have HF := hid hF
  have H0 := hid h0
  clear hJ hF h0
  go_enter Try.func96, Try.ntmps96
  go_wp2_with (at_make; refine wpList_make_full _ rfl _ _ 69 rfl w.heap.size 34 i0 (.slice none 0 0) 1 Try.underlying69 hi hz0 hz1 _ _ _ _ n rfl rfl rfl rfl ?b2 ?b3 ?b4 ?_)
  case b2 => rw [HB.out]; omega
  case b3 => unfold maxLen; omega
  case b4 => exact Nat.le_refl _
  intro w1 hown hgrow
  have hL : Later w w1 := (Below.refl _ _).grown hgrow (Nat.le_refl _) (by simp)
  have hG : GridAt w.heap.size w1.heap.size w1 w.heap.size n 0 (mk n f) :=
    ⟨Nat.le_refl _, (hown.lt _ rfl).2, _, [], hown, rfl, by simp, fun i hi => absurd hi (Nat.not_lt_zero i), fun i j _ hj => absurd hj (Nat.not_lt_zero j)⟩
  have HG := hid hG
  have HJ0 := hid (HJ.out 0 _ _ H0.out hL)
  clear hown hgrow hL hG
  go_wp2_with fail
  go_loopw [12] (fun x wr => ∃ i : Nat, i ≤ n ∧ x = .int .i64 i ∧ GridAt w.heap.size wr.heap.size wr w.heap.size n i (mk n f) ∧ J (i * n) wr) (fun x _ => n - (intOf x).toNat)
  case atStart => exact ⟨0, Nat.zero_le _, rfl, HG.out, by simpa using HJ0.out⟩
  case round =>
    obtain ⟨i, hin, rfl, hGi, hJi⟩ := hrel
    by_cases hlt : i < n
    · have hsz : w.heap.size < wr.heap.size := hGi.2.1
      have HGi := hid hGi
      have HJi := hid hJi
      clear hGi hJi
      go_wp2_with (at_make; refine wpList_make_full _ rfl _ _ 34 rfl w.heap.size 3 ii (.int .i64 0) 1 Try.underlying34 hii ii0 ii1 _ _ _ _ n rfl rfl rfl rfl ?c2 ?c3 ?c4 ?_)
      case c2 => rw [HI.out]; omega
      case c3 => unfold maxLen; omega
      case c4 => omega
      intro w2 hown hgrow
      have hL2 : Later wr w2 := (Below.refl _ _).grown hgrow (Nat.le_refl _) (by simp)
      have hG2 := HGi.out.keep (fun b _ hb => hL2.block b hb)
      obtain ⟨⟨u0, hu0⟩, hfr⟩ := hG2.at hlt
      have hF2 : Filled w.heap.size 3 w2 (.slice (some ⟨wr.heap.size, 0, none⟩) n n) n 0 (((List.range n).map (f i)).map (Value.int .i64)) := ⟨_, hown, by simp⟩
      have hgi : wr.heap.size < w2.heap.size := (hown.lt _ rfl).2
      have HG3 := hid (hG2.store (.slice (some ⟨wr.heap.size, 0, none⟩) n n))
      have hc3 : (w2.setCell ⟨w.heap.size, i, none⟩ (.slice (some ⟨wr.heap.size, 0, none⟩) n n)).cell? ⟨w.heap.size, i, none⟩ = some (.slice (some ⟨wr.heap.size, 0, none⟩) n n) := World.cell?_setCell_same _ _ _ hu0
      have HF3 := hid (show Filled w.heap.size 3 (w2.setCell ⟨w.heap.size, i, none⟩ (.slice (some ⟨wr.heap.size, 0, none⟩) n n)) (.slice (some ⟨wr.heap.size, 0, none⟩) n n) n 0 (((List.range n).map (f i)).map (Value.int .i64)) from
        hF2.keep fun b hb => by simp [Value.ownBlock] at hb; subst hb; exact heap_setCell_other w2 ⟨w.heap.size, i, none⟩ _ _ (by simp; omega))
      have HJ3 := hid (HJ.out _ _ (w2.setCell ⟨w.heap.size, i, none⟩ (.slice (some ⟨wr.heap.size, 0, none⟩) n n)) HJi.out ((Below.mono hL2 (Nat.le_of_lt hsz)).setCell (p := ⟨w.heap.size, i, none⟩) (Nat.le_refl _) _))
      have hgi3 : wr.heap.size < (w2.setCell ⟨w.heap.size, i, none⟩ (.slice (some ⟨wr.heap.size, 0, none⟩) n n)).heap.size := by simpa [World.setCell] using hgi
      clear hown hgrow hL2 hG2 hF2
      go_wp2_with fail
      generalize w2.setCell ⟨w.heap.size, i, none⟩ (.slice (some ⟨wr.heap.size, 0, none⟩) n n) = w3 at HG3 hc3 HF3 HJ3 hgi3 ⊢
      clear HGi HJi hu0 hfr hgi
      generalize wr.heap.size = H at hsz HG3 hc3 HF3 hgi3 ⊢
      clear wr u0 w2
      go_loopw [25] (fun y wq => ∃ j : Nat, j ≤ n ∧ y = .int .i64 j ∧ GridAt w.heap.size H wq w.heap.size n i (mk n f) ∧ wq.cell? ⟨w.heap.size, i, none⟩ = some (.slice (some ⟨H, 0, none⟩) n n) ∧
          Filled w.heap.size 3 wq (.slice (some ⟨H, 0, none⟩) n n) n j (((List.range n).map (f i)).map (Value.int .i64)) ∧ J (i * n + j) wq ∧ H < wq.heap.size) (fun y _ => n - (intOf y).toNat)
      case atStart => exact ⟨0, Nat.zero_le _, rfl, HG3.out, hc3, HF3.out, HJ3.out, hgi3⟩
      case round =>
        obtain ⟨j, hj, rfl, hGj, hcj, hFj, hJj, hHj⟩ := hrel
        clear HG3 hc3 HF3 HJ3 hgi3
        by_cases hjt : j < n
        · have HGj := hid hGj
          have HFj := hid hFj
          have HCALL := hid (HF.out i j wr.drew hlt hjt (HJ.out _ _ _ hJj ((Below.refl _ _).drew)) (by simp; omega))
          have hi1 : (i : Int) < (n : Int) := by omega
          have hj1 : (j : Int) < (n : Int) := by omega
          clear hGj hFj hJj
          go_wp2_with fail
          go_region_held3 (fun w' => w'.cell? ⟨w.heap.size, i, none⟩ = some (.slice (some ⟨H, 0, none⟩) n n))
            (first | exact hcj | exact hc5 | exact hc6)
            (first | ((with_reducible refine HCALL.out.mono ?_); rintro e w5 ⟨rfl, hJ5, hU5⟩; have hc5 : w5.cell? ⟨w.heap.size, i, none⟩ = some (.slice (some ⟨H, 0, none⟩) n n) := hU5.cell (w := wr.drew) hcj (Nat.le_refl _); obtain ⟨⟨u5, hu5⟩, hfr5⟩ := HFj.out.at_upper hU5 (Nat.le_of_lt hsz) hjt; have hc6 : (w5.setCell ⟨H, j, none⟩ (.int .i64 (f i j))).cell? ⟨w.heap.size, i, none⟩ = some (.slice (some ⟨H, 0, none⟩) n n) := (World.cell?_setCell_far w5 _ _ _ (by simp; omega)).trans hc5; have HG6 := hid (HGj.out.step_upper (j := j) (u := .int .i64 (f i j)) hU5 hHj); have HF6 := hid (HFj.out.step_upper (u := .int .i64 (f i j)) hU5 (Nat.le_of_lt hsz) hHj hjt (by simp [hjt])); have HJ6 := hid (HJ.out _ _ (w5.setCell ⟨H, j, none⟩ (.int .i64 (f i j))) hJ5 ((Below.refl _ _).setCell (p := ⟨H, j, none⟩) (Nat.le_of_lt hsz) _)); have hH6 : H < (w5.setCell ⟨H, j, none⟩ (.int .i64 (f i j))).heap.size := (by have := hU5.1; simp [World.setCell] at this ⊢; omega); clear hJ5 hU5))
          go_wp2_with fail
          go_roundw
          case rel => exact ⟨j + 1, hjt, by go_num, HG6.out, hc6, HF6.out, by rw [← Nat.add_assoc]; exact HJ6.out, hH6⟩
          case measure => simp [intOf]; omega
        · have hjn : j = n := by omega
          subst hjn
          have HG7 := hid (hGj.next hlt hcj (hi' := wr.heap.size) (u := .slice (some ⟨H, 0, none⟩) j j) (by rw [mk_row j f i hlt]; exact ⟨by simpa using hFj.full (by simp), fun b hb => by simp [Value.ownBlock] at hb; omega⟩) (fun b hb => by simp [Value.ownBlock] at hb; omega) (by omega))
          have HJ7 := hid (show J ((i + 1) * j) wr by rw [Nat.add_mul, Nat.one_mul]; exact hJj)
          clear hGj hFj hJj hcj
          go_wp2_with fail
          go_roundw
          case rel => exact ⟨i + 1, hlt, by go_num, HG7.out, HJ7.out⟩
          case measure => simp [intOf]; omega
    · go_wp2_with fail
      go_ret
      have : i = n := by omega
      subst this
      have hf := GridAt.full (zss := mk i f) (by rw [mk_length]; exact hGi)
      rw [mk_length] at hf
      exact ⟨_, rfl, hf, hJi⟩
end Go.Proofs.Ythejafejmbpepaa
