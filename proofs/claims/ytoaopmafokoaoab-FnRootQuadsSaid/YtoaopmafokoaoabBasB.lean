/- Grid, Unit, Unit2, Ans, Ans2: in one text. -/
import Derived.Test.YtoaopmafokoaoabBasA
import Derived.Deep.RegionHeld3
import Derived.Deep.AppendLies
import Derived.Deep.OwnRows
import Derived.Deep.RegionLaw
namespace Go.Proofs.Ytoaopmafokoaoab
open Go.RowKit


/-- A sum as the program makes it: from the left, wrapping. -/
def wsum (f : Nat → Int) : Nat → Int
  | 0 => 0
  | k + 1 => wrap64 (wsum f k + f k)
theorem wsum_succ (f : Nat → Int) (k : Nat) : wsum f (k + 1) = wrap64 (wsum f k + f k) := rfl
theorem wsum_congr (f g : Nat → Int) (n : Nat) (h : ∀ i, i < n → f i = g i) : wsum f n = wsum g n := by
  induction n with
  | zero => rfl
  | succ n ih => rw [wsum_succ, wsum_succ, ih (fun i hi => h i (by omega)), h n (by omega)]

set_option maxHeartbeats 400000 in
theorem sumOver_any (v : Value) (zs : List Int) (F : Nat) (caps : Array Value) (f : Nat → Int) (w : World) (eg : ∀ args w, (callFunc F args).run Try.prog w = .ok (.enter F args) w) (h : Ints w v zs)
    (hF : ∀ i w1, i < zs.length → Later w w1 → Calls Try.prog F (#[.int .i64 i, .int .i64 (zs.getD i 0)] ++ caps) w1 fun e w2 => e = .returned (.int .i64 (f i)) ∧ Later w1 w2) :
    Calls Try.prog 105 #[v, .func (.func F) #[] caps] w fun e w' => e = .returned (.int .i64 (wsum f zs.length)) ∧ Later w w' := by
  obtain ⟨a, cap, rfl, hl, hc⟩ := h
  have HC := hid hc; clear hc
  have HF := hid hF; clear hF
  go_enter Try.func105, Try.ntmps105
  go_wp2_with fail
  go_loopw [5, 10] (fun s i wr => ∃ k : Nat, k ≤ zs.length ∧ i = .int .i64 k ∧ s = .int .i64 (wsum f k) ∧ Later w wr) (fun _ i _ => zs.length - (intOf i).toNat)
  case atStart => exact ⟨0, Nat.zero_le _, rfl, rfl, Later.refl w⟩
  case round =>
    obtain ⟨k, hk, rfl, rfl, hal⟩ := hrel
    by_cases hlt : k < zs.length
    · obtain ⟨ad, rfl, hcell⟩ := HC.out k hlt
      have hcellr := hal.cell hcell
      have hcall := HF.out k wr hlt hal
      rw [getD_at zs k hlt] at hcellr hcall
      have HCALL := hid hcall
      have HAL := hid hal
      clear hcall hal hcell
      go_wp2_with fail
      refine HCALL.out.mono ?_
      rintro e w2 ⟨rfl, hL⟩
      have HL := hid (HAL.out.trans hL)
      clear hL
      go_wp2_with fail
      go_roundw
      case rel => exact ⟨k + 1, hlt, by go_num, rfl, HL.out⟩
      case measure => simp [intOf]; omega
    · go_wp2_with fail
      go_ret
      have : k = zs.length := by omega
      subst this
      exact ⟨rfl, hal⟩

/-! ### gridOf -/

theorem Filled.keep {lo : Nat} {e : TypeId} {w w' : World} {v : Value} {n k : Nat} {us : List Value} (h : Filled lo e w v n k us) (hk : ∀ b, v.ownBlock = some b → w'.heap[b]? = w.heap[b]?) : Filled lo e w' v n k us := by
  obtain ⟨xs, ho, hx⟩ := h
  exact ⟨xs, ownsRow_keep ho hk, hx⟩

def mk (n : Nat) (f : Nat → Nat → Int) : List (List Int) := (List.range n).map fun i => (List.range n).map fun j => f i j
theorem mk_length (n : Nat) (f : Nat → Nat → Int) : (mk n f).length = n := by simp [mk]
theorem mk_row (n : Nat) (f : Nat → Nat → Int) (i : Nat) (h : i < n) : (mk n f).getD i [] = (List.range n).map (f i) := by simp [mk, h]
theorem mk_congr (n : Nat) (f g : Nat → Nat → Int) (h : ∀ i j, i < n → j < n → f i j = g i j) : mk n f = mk n g := by
  unfold mk
  exact List.map_congr_left fun i hi => List.map_congr_left fun j hj => h i j (List.mem_range.1 hi) (List.mem_range.1 hj)

/-- Blocks from B on that were there are as they were. -/
def Upper (B : Nat) (w w' : World) : Prop := w.heap.size ≤ w'.heap.size ∧ ∀ k, B ≤ k → k < w.heap.size → w'.heap[k]? = w.heap[k]?
theorem Upper.refl (B : Nat) (w : World) : Upper B w w := ⟨Nat.le_refl _, fun _ _ _ => rfl⟩
theorem Later.upper {w w' : World} (h : Later w w') (B : Nat) : Upper B w w' := ⟨h.size, fun k _ hk => h.block k hk⟩
theorem Upper.cell {B : Nat} {w w' : World} (h : Upper B w w') {a : Addr} {v : Value} (hc : w.cell? a = some v) (ha : B ≤ a.block) : w'.cell? a = some v :=
  cell_keep hc (h.2 _ ha (World.block_lt_of_cell? w a hc))
theorem Upper.frozen {B : Nat} {w w' : World} (h : Upper B w w') {a : Addr} {v : Value} (hc : w.cell? a = some v) (hf : w.frozen? a = false) (ha : B ≤ a.block) : w'.frozen? a = false :=
  (World.frozen?_of_block (h.2 _ ha (World.block_lt_of_cell? w a hc))).trans hf

/-- The first i rows of a grid of n rows are laid; their blocks lie below hi. -/
def GridAt (lo hi : Nat) (w : World) (gb n i : Nat) (zss : List (List Int)) : Prop :=
  lo ≤ gb ∧ gb < hi ∧ ∃ xs us : List Value, w.ownsRow lo 24 1 (.slice (some ⟨gb, 0, none⟩) n n) n xs ∧ us.length = i ∧ xs.take i = us ∧ (∀ r, r < i → OwnInts lo hi w (us.getD r undef) (zss.getD r [])) ∧
    ∀ r s, r < s → s < i → ∀ b, (us.getD r undef).ownBlock = some b → (us.getD s undef).ownBlock ≠ some b
theorem GridAt.keep {lo hi : Nat} {w w' : World} {gb n i : Nat} {zss : List (List Int)} (h : GridAt lo hi w gb n i zss) (k : ∀ b, lo ≤ b → b < hi → w'.heap[b]? = w.heap[b]?) : GridAt lo hi w' gb n i zss := by
  obtain ⟨h1, h2, xs, us, ho, hl, hx, hin, hd⟩ := h
  refine ⟨h1, h2, xs, us, ownsRow_keep ho fun b hb => ?_, hl, hx, fun r hr => (hin r hr).keep k, hd⟩
  simp [Value.ownBlock] at hb
  subst hb
  exact k gb h1 h2
theorem GridAt.at {lo hi : Nat} {w : World} {gb n i : Nat} {zss : List (List Int)} (h : GridAt lo hi w gb n i zss) (hi' : i < n) : (∃ u, w.cell? ⟨gb, i, none⟩ = some u) ∧ w.frozen? ⟨gb, i, none⟩ = false := by
  obtain ⟨h1, h2, xs, us, ho, hl, hx, hin, hd⟩ := h
  have hl : xs.length = n := by have := ho.1; simpa using this
  refine ⟨⟨xs[i]'(by omega), ?_⟩, ho.frozenAt i⟩
  rw [ho.cellAt i (by omega)]; simp [hl, hi']
/-- A store into the grid at a row that is not laid yet. -/
theorem GridAt.store {lo hi : Nat} {w : World} {gb n i : Nat} {zss : List (List Int)} (h : GridAt lo hi w gb n i zss) (u : Value) : GridAt lo hi (w.setCell ⟨gb, i, none⟩ u) gb n i zss := by
  obtain ⟨h1, h2, xs, us, ho, hl, hx, hin, hd⟩ := h
  have hn : xs.length = n := by have := ho.1; simpa using this
  obtain ⟨cur, hcur⟩ := ownsRow_head ho
  exact ⟨h1, h2, xs.set i u, us, (ho.stored i u).1, hl, by rw [List.take_set_of_le (Nat.le_refl _), hx], fun r hr => (hin r hr).setCell ((hin r hr).ne hcur) u, hd⟩
theorem GridAt.next {lo hi hi' : Nat} {w : World} {gb n i : Nat} {zss : List (List Int)} {u : Value} (h : GridAt lo hi w gb n i zss) (hin' : i < n) (hc : w.cell? ⟨gb, i, none⟩ = some u) (hu : OwnInts lo hi' w u (zss.getD i []))
    (hb : ∀ b, u.ownBlock = some b → hi ≤ b) (hh : hi ≤ hi') : GridAt lo hi' w gb n (i + 1) zss := by
  obtain ⟨h1, h2, xs, us, ho, hl, hx, hin, hd⟩ := h
  have hn : xs.length = n := by have := ho.1; simpa using this
  have hxi : xs[i]? = some u := by rw [← hc, ho.cellAt i (by omega)]
  refine ⟨h1, by omega, xs, us ++ [u], ho, by simp [hl], by rw [List.take_add_one, hx, hxi]; rfl, ?_, ?_⟩
  · intro r hr
    by_cases hri : r = i
    · subst hri
      rw [show (us ++ [u]).getD r undef = u by simp [← hl]]
      exact hu
    · rw [show (us ++ [u]).getD r undef = us.getD r undef by simp [List.getElem?_append_left (show r < us.length by omega)]]
      exact (hin r (by omega)).wide (Nat.le_refl _) hh
  · intro r s hrs hs b hbr
    rw [show (us ++ [u]).getD r undef = us.getD r undef by simp [List.getElem?_append_left (show r < us.length by omega)]] at hbr
    by_cases hsi : s = i
    · subst hsi
      rw [show (us ++ [u]).getD s undef = u by simp [← hl]]
      intro hbs
      have := (hin r hrs).2 b hbr
      have := hb b hbs
      omega
    · rw [show (us ++ [u]).getD s undef = us.getD s undef by simp [List.getElem?_append_left (show s < us.length by omega)]]
      exact hd r s hrs (by omega) b hbr
theorem GridAt.full {lo hi : Nat} {w : World} {gb : Nat} {zss : List (List Int)} (h : GridAt lo hi w gb zss.length zss.length zss) : OwnRows lo hi w (.slice (some ⟨gb, 0, none⟩) zss.length zss.length) zss := by
  obtain ⟨h1, h2, xs, us, ho, hl, hx, hin, hd⟩ := h
  have hn : xs.length = zss.length := by have := ho.1; simpa using this
  rw [List.take_of_length_le (by omega)] at hx
  subst hx
  exact ⟨xs, hl, by rw [hl]; exact ho, fun b hb => by simp [Value.ownBlock] at hb; omega, hin, hd⟩

theorem Filled.at_upper {lo B : Nat} {e : TypeId} {w w5 : World} {g n cap k : Nat} {us : List Value} (h : Filled lo e w (.slice (some ⟨g, 0, none⟩) n cap) n k us) (hU : Upper B w.drew w5) (hB : B ≤ g) (hk : k < n) :
    (∃ u, w5.cell? ⟨g, k, none⟩ = some u) ∧ w5.frozen? ⟨g, k, none⟩ = false := by
  obtain ⟨⟨u, hu⟩, hf⟩ := h.at hk
  exact ⟨⟨u, hU.cell (w := w.drew) hu hB⟩, hU.frozen (w := w.drew) hu hf hB⟩
theorem Filled.step_upper {lo B : Nat} {e : TypeId} {w w5 : World} {g n cap k : Nat} {us : List Value} {u : Value} (h : Filled lo e w (.slice (some ⟨g, 0, none⟩) n cap) n k us) (hU : Upper B w.drew w5) (hB : B ≤ g) (hg : g < w.heap.size) (hk : k < n) (hu : us[k]? = some u) :
    Filled lo e (w5.setCell ⟨g, k, none⟩ u) (.slice (some ⟨g, 0, none⟩) n cap) n (k + 1) us := by
  refine (h.keep (w' := w5) fun b hb => ?_).step hk hu
  simp [Value.ownBlock] at hb
  subst hb
  exact hU.2 _ hB hg
theorem GridAt.step_upper {lo hi : Nat} {w w5 : World} {gb n i j : Nat} {zss : List (List Int)} {u : Value} (h : GridAt lo hi w gb n i zss) (hU : Upper lo w.drew w5) (hh : hi < w.heap.size) : GridAt lo hi (w5.setCell ⟨hi, j, none⟩ u) gb n i zss :=
  h.keep fun b hb hb2 => (heap_setCell_other w5 ⟨hi, j, none⟩ b u (by simp; omega)).trans (hU.2 b hb (by simp; omega))
def GridRes (n : Nat) (f : Nat → Nat → Int) (J : Nat → World → Prop) (w : World) (e : Ending) (w' : World) : Prop :=
  ∃ v, e = .returned v ∧ OwnRows w.heap.size w'.heap.size w' v (mk n f) ∧ J (n * n) w'

set_option maxHeartbeats 1000000 in
theorem gridOf_any (n : Nat) (F : Nat) (caps : Array Value) (f : Nat → Nat → Int) (J : Nat → World → Prop) (w : World) (hn : n ≤ 1048576)
    (eg : ∀ args w, (callFunc F args).run Try.prog w = .ok (.enter F args) w)
    (h0 : J 0 w) (hJ : ∀ t w1 w2, J t w1 → Below w.heap.size w1 w2 → J t w2)
    (hF : ∀ i j w1, i < n → j < n → J (i * n + j) w1 → w.heap.size ≤ w1.heap.size →
      Calls Try.prog F (#[.int .i64 i, .int .i64 j] ++ caps) w1 fun e w2 => e = .returned (.int .i64 (f i j)) ∧ J (i * n + j + 1) w2 ∧ Upper w.heap.size w1 w2) :
    Calls Try.prog 67 #[.int .i64 n, .func (.func F) #[] caps] w fun e w' => GridRes n f J w e w' := by
  obtain ⟨ii, hii, ii0, ii1, ii2⟩ := info_parts Try.infoInt
  obtain ⟨i0, hi, hz0, hz1, hz2⟩ := info_parts Try.infoInts
  have HB := hid hz2
  have HI := hid ii2
  have HJ := hid hJ
  have HF := hid hF
  have H0 := hid h0
  clear hJ hF h0
  go_enter Try.func67, Try.ntmps67
  go_wp2_with (at_make; refine wpList_make_full _ rfl _ _ 79 rfl w.heap.size 24 i0 (.slice none 0 0) 1 Try.underlying79 hi hz0 hz1 _ _ _ _ n rfl rfl rfl rfl ?b2 ?b3 ?b4 ?_)
  case b2 => rw [HB.out]; omega
  case b3 => unfold maxLen; omega
  case b4 => exact Nat.le_refl _
  intro w1 hown hgrow
  have hL : Later w w1 := (Below.refl _ _).grown hgrow (Nat.le_refl _) (by simp)
  have hG : GridAt w.heap.size w1.heap.size w1 w.heap.size n 0 (mk n f) :=
    ⟨Nat.le_refl _, (hown.lt _ rfl).2, _, [], hown, rfl, by simp, fun i hi => absurd hi (Nat.not_lt_zero i), fun i j _ hj => absurd hj (Nat.not_lt_zero j)⟩
  have HG := hid hG
  have HJ0 := hid (HJ.out 0 _ _ H0.out hL)
  clear hown hgrow hL hG
  go_wp2_with fail
  go_loopw [12] (fun x wr => ∃ i : Nat, i ≤ n ∧ x = .int .i64 i ∧ GridAt w.heap.size wr.heap.size wr w.heap.size n i (mk n f) ∧ J (i * n) wr) (fun x _ => n - (intOf x).toNat)
  case atStart => exact ⟨0, Nat.zero_le _, rfl, HG.out, by simpa using HJ0.out⟩
  case round =>
    obtain ⟨i, hin, rfl, hGi, hJi⟩ := hrel
    by_cases hlt : i < n
    · have hsz : w.heap.size < wr.heap.size := hGi.2.1
      have HGi := hid hGi
      have HJi := hid hJi
      clear hGi hJi
      go_wp2_with (at_make; refine wpList_make_full _ rfl _ _ 24 rfl w.heap.size 3 ii (.int .i64 0) 1 Try.underlying24 hii ii0 ii1 _ _ _ _ n rfl rfl rfl rfl ?c2 ?c3 ?c4 ?_)
      case c2 => rw [HI.out]; omega
      case c3 => unfold maxLen; omega
      case c4 => omega
      intro w2 hown hgrow
      have hL2 : Later wr w2 := (Below.refl _ _).grown hgrow (Nat.le_refl _) (by simp)
      have hG2 := HGi.out.keep (fun b _ hb => hL2.block b hb)
      obtain ⟨⟨u0, hu0⟩, hfr⟩ := hG2.at hlt
      have hF2 : Filled w.heap.size 3 w2 (.slice (some ⟨wr.heap.size, 0, none⟩) n n) n 0 (((List.range n).map (f i)).map (Value.int .i64)) := ⟨_, hown, by simp⟩
      have hgi : wr.heap.size < w2.heap.size := (hown.lt _ rfl).2
      have HG3 := hid (hG2.store (.slice (some ⟨wr.heap.size, 0, none⟩) n n))
      have hc3 : (w2.setCell ⟨w.heap.size, i, none⟩ (.slice (some ⟨wr.heap.size, 0, none⟩) n n)).cell? ⟨w.heap.size, i, none⟩ = some (.slice (some ⟨wr.heap.size, 0, none⟩) n n) := World.cell?_setCell_same _ _ _ hu0
      have HF3 := hid (show Filled w.heap.size 3 (w2.setCell ⟨w.heap.size, i, none⟩ (.slice (some ⟨wr.heap.size, 0, none⟩) n n)) (.slice (some ⟨wr.heap.size, 0, none⟩) n n) n 0 (((List.range n).map (f i)).map (Value.int .i64)) from
        hF2.keep fun b hb => by simp [Value.ownBlock] at hb; subst hb; exact heap_setCell_other w2 ⟨w.heap.size, i, none⟩ _ _ (by simp; omega))
      have HJ3 := hid (HJ.out _ _ (w2.setCell ⟨w.heap.size, i, none⟩ (.slice (some ⟨wr.heap.size, 0, none⟩) n n)) HJi.out ((Below.mono hL2 (Nat.le_of_lt hsz)).setCell (p := ⟨w.heap.size, i, none⟩) (Nat.le_refl _) _))
      have hgi3 : wr.heap.size < (w2.setCell ⟨w.heap.size, i, none⟩ (.slice (some ⟨wr.heap.size, 0, none⟩) n n)).heap.size := by simpa [World.setCell] using hgi
      clear hown hgrow hL2 hG2 hF2
      go_wp2_with fail
      generalize w2.setCell ⟨w.heap.size, i, none⟩ (.slice (some ⟨wr.heap.size, 0, none⟩) n n) = w3 at HG3 hc3 HF3 HJ3 hgi3 ⊢
      clear HGi HJi hu0 hfr hgi
      generalize wr.heap.size = H at hsz HG3 hc3 HF3 hgi3 ⊢
      clear wr u0 w2
      go_loopw [25] (fun y wq => ∃ j : Nat, j ≤ n ∧ y = .int .i64 j ∧ GridAt w.heap.size H wq w.heap.size n i (mk n f) ∧ wq.cell? ⟨w.heap.size, i, none⟩ = some (.slice (some ⟨H, 0, none⟩) n n) ∧
          Filled w.heap.size 3 wq (.slice (some ⟨H, 0, none⟩) n n) n j (((List.range n).map (f i)).map (Value.int .i64)) ∧ J (i * n + j) wq ∧ H < wq.heap.size) (fun y _ => n - (intOf y).toNat)
      case atStart => exact ⟨0, Nat.zero_le _, rfl, HG3.out, hc3, HF3.out, HJ3.out, hgi3⟩
      case round =>
        obtain ⟨j, hj, rfl, hGj, hcj, hFj, hJj, hHj⟩ := hrel
        clear HG3 hc3 HF3 HJ3 hgi3
        by_cases hjt : j < n
        · have HGj := hid hGj
          have HFj := hid hFj
          have HCALL := hid (HF.out i j wr.drew hlt hjt (HJ.out _ _ _ hJj ((Below.refl _ _).drew)) (by simp; omega))
          have hi1 : (i : Int) < (n : Int) := by omega
          have hj1 : (j : Int) < (n : Int) := by omega
          clear hGj hFj hJj
          go_wp2_with fail
          go_region_held3 (fun w' => w'.cell? ⟨w.heap.size, i, none⟩ = some (.slice (some ⟨H, 0, none⟩) n n))
            (first | exact hcj | exact hc5 | exact hc6)
            (first | ((with_reducible refine HCALL.out.mono ?_); rintro e w5 ⟨rfl, hJ5, hU5⟩; have hc5 : w5.cell? ⟨w.heap.size, i, none⟩ = some (.slice (some ⟨H, 0, none⟩) n n) := hU5.cell (w := wr.drew) hcj (Nat.le_refl _); obtain ⟨⟨u5, hu5⟩, hfr5⟩ := HFj.out.at_upper hU5 (Nat.le_of_lt hsz) hjt; have hc6 : (w5.setCell ⟨H, j, none⟩ (.int .i64 (f i j))).cell? ⟨w.heap.size, i, none⟩ = some (.slice (some ⟨H, 0, none⟩) n n) := (World.cell?_setCell_far w5 _ _ _ (by simp; omega)).trans hc5; have HG6 := hid (HGj.out.step_upper (j := j) (u := .int .i64 (f i j)) hU5 hHj); have HF6 := hid (HFj.out.step_upper (u := .int .i64 (f i j)) hU5 (Nat.le_of_lt hsz) hHj hjt (by simp [hjt])); have HJ6 := hid (HJ.out _ _ (w5.setCell ⟨H, j, none⟩ (.int .i64 (f i j))) hJ5 ((Below.refl _ _).setCell (p := ⟨H, j, none⟩) (Nat.le_of_lt hsz) _)); have hH6 : H < (w5.setCell ⟨H, j, none⟩ (.int .i64 (f i j))).heap.size := (by have := hU5.1; simp [World.setCell] at this ⊢; omega); clear hJ5 hU5))
          go_wp2_with fail
          go_roundw
          case rel => exact ⟨j + 1, hjt, by go_num, HG6.out, hc6, HF6.out, by rw [← Nat.add_assoc]; exact HJ6.out, hH6⟩
          case measure => simp [intOf]; omega
        · have hjn : j = n := by omega
          subst hjn
          have HG7 := hid (hGj.next hlt hcj (hi' := wr.heap.size) (u := .slice (some ⟨H, 0, none⟩) j j) (by rw [mk_row j f i hlt]; exact ⟨by simpa using hFj.full (by simp), fun b hb => by simp [Value.ownBlock] at hb; omega⟩) (fun b hb => by simp [Value.ownBlock] at hb; omega) (by omega))
          have HJ7 := hid (show J ((i + 1) * j) wr by rw [Nat.add_mul, Nat.one_mul]; exact hJj)
          clear hGj hFj hJj hcj
          go_wp2_with fail
          go_roundw
          case rel => exact ⟨i + 1, hlt, by go_num, HG7.out, HJ7.out⟩
          case measure => simp [intOf]; omega
    · go_wp2_with fail
      go_ret
      have : i = n := by omega
      subst this
      have hf := GridAt.full (zss := mk i f) (by rw [mk_length]; exact hGi)
      rw [mk_length] at hf
      exact ⟨_, rfl, hf, hJi⟩


/-- What a function that answers a matrix and a bool leaves: o's rows, if there are any. -/
def MatAns (w : World) (o : Option (List (List Int))) (e : Ending) (w' : World) : Prop :=
  ∃ v, e = .returned (.tuple #[.agg #[v], .bool o.isSome]) ∧ OwnRows w.heap.size w'.heap.size w' v (o.getD []) ∧ Later w w'

theorem OwnRows.empty (lo hi : Nat) (w : World) : OwnRows lo hi w (.slice none 0 0) [] :=
  ⟨[], rfl, World.ownsRow_nil _ _ _ _, fun b hb => by simp [Value.ownBlock] at hb, fun i hi => absurd hi (Nat.not_lt_zero i), fun i j _ hj => absurd hj (Nat.not_lt_zero j)⟩

theorem OwnRows.pushed {lo : Nat} {w w1 : World} {v v' u : Value} {us : List Value} {L : List (List Int)} {r : List Int} {h0 : Nat} (hl : us.length = L.length) (ho : w.ownsRow lo 24 1 v us.length us)
    (hin : ∀ i, i < L.length → OwnInts lo h0 w (us.getD i undef) (L.getD i [])) (hd : ∀ i j, i < j → j < L.length → ∀ k, (us.getD i undef).ownBlock = some k → (us.getD j undef).ownBlock ≠ some k)
    (hu : OwnInts h0 w.heap.size w u r) (hlo : lo ≤ h0) (ho1 : w1.ownsRow lo 24 1 v' (us.length + 1) (us ++ [u])) (hg : w.grownBy w1 v.ownBlock) : OwnRows lo w1.heap.size w1 v' (L ++ [r]) := by
  have keep : ∀ (a : Value) (zs : List Int) (lo' hi' : Nat), OwnInts lo' hi' w a zs → OwnInts lo' hi' w1 a zs := by
    intro a zs lo' hi' h
    refine ⟨ownsRow_keep h.1 fun b hb => hg.block b (h.1.lt b hb).2 fun e => ?_, h.2⟩
    obtain ⟨c1, hc1⟩ := ownsRow_block h.1 hb
    obtain ⟨c2, hc2⟩ := ownsRow_block ho e.symm
    rw [hc1] at hc2
    simp at hc2
  refine ⟨us ++ [u], by simp [hl], by rw [List.length_append]; exact ho1, fun b hb => (ho1.lt b hb).2, ?_, ?_⟩
  · intro i hi
    by_cases hil : i = L.length
    · subst hil
      rw [show (us ++ [u]).getD L.length undef = u by simp [← hl], show (L ++ [r]).getD L.length [] = r by simp]
      exact (keep _ _ _ _ hu).wide hlo hg.size
    · have hi' : i < L.length := by simp at hi; omega
      rw [show (us ++ [u]).getD i undef = us.getD i undef by simp [List.getElem?_append_left (show i < us.length by omega)], show (L ++ [r]).getD i [] = L.getD i [] by simp [List.getElem?_append_left hi']]
      have h1 := keep _ _ _ _ (hin i hi')
      exact ⟨h1.1, fun b hb => (h1.1.lt b hb).2⟩
  · intro i j hij hj b hb
    have hj' : j < L.length + 1 := by simpa using hj
    rw [show (us ++ [u]).getD i undef = us.getD i undef by simp [List.getElem?_append_left (show i < us.length by omega)]] at hb
    by_cases hjl : j = L.length
    · subst hjl
      rw [show (us ++ [u]).getD L.length undef = u by simp [← hl]]
      intro hb2
      have h1 := (hin i hij).2 b hb
      have h2 := (hu.1.lt b hb2).1
      omega
    · rw [show (us ++ [u]).getD j undef = us.getD j undef by simp [List.getElem?_append_left (show j < us.length by omega)]]
      exact hd i j hij (by omega) b hb

theorem madeInts (w : World) (n : Nat) (hn : n ≤ 1048576) : OwnInts w.heap.size (w.heap.size + 1) (w.alloc (.cells (madeCells #[Value.int .i64 0] n) 3)) (.slice (some ⟨w.heap.size, 0, none⟩) n n) (List.replicate n 0) := by
  have h := World.ownsRow_lit (e := 3) (size := 1) w (madeCells #[Value.int .i64 0] n) n (Nat.le_refl _) (by unfold maxLen; omega) (by simp [size_madeCells])
  rw [toList_madeCells_one] at h
  refine ⟨by simpa using h, fun b hb => by simp [Value.ownBlock] at hb; omega⟩

/-- A variable of one cell, in block b, holds v and may be written. -/
def Box (w : World) (b : Nat) (v : Value) : Prop := w.cell? ⟨b, 0, none⟩ = some v ∧ w.frozen? ⟨b, 0, none⟩ = false
theorem Box.later {w w' : World} {b : Nat} {v : Value} (h : Box w b v) (k : Later w w') : Box w' b v := ⟨k.cell h.1, k.frozen h.1 h.2⟩
theorem Box.keep {w w' : World} {b : Nat} {v : Value} (h : Box w b v) (k : w'.heap[b]? = w.heap[b]?) : Box w' b v :=
  ⟨cell_keep h.1 k, (World.frozen?_of_block (a := ⟨b, 0, none⟩) k).trans h.2⟩
theorem Box.lt {w : World} {b : Nat} {v : Value} (h : Box w b v) : b < w.heap.size := World.block_lt_of_cell? w ⟨b, 0, none⟩ h.1
theorem Box.set {w : World} {b : Nat} {v : Value} (h : Box w b v) (u : Value) : Box (w.setCell ⟨b, 0, none⟩ u) b u :=
  ⟨World.cell?_setCell_same _ _ _ h.1, by rw [World.frozen?_setCell]; exact h.2⟩
theorem Box.other {w : World} {b : Nat} {v : Value} (h : Box w b v) {a : Addr} (ha : a.block ≠ b) (u : Value) : Box (w.setCell a u) b v :=
  h.keep (heap_setCell_other w a b u (fun e => ha e.symm))

theorem Box.grown {w w1 : World} {b : Nat} {v u : Value} (h : Box w b v) (hg : w.grownBy w1 u.ownBlock) (hb : u.ownBlock = some b → False) : Box w1 b v :=
  h.keep (hg.block b h.lt fun e => hb e.symm)

def zeroM (k n : Nat) : List (List Int) := List.replicate k (List.replicate n 0)
theorem zeroM_succ (k n : Nat) : zeroM (k + 1) n = zeroM k n ++ [List.replicate n 0] := by simp [zeroM, List.replicate_succ']

set_option maxHeartbeats 1000000 in
theorem foZero_any (n : Nat) (w : World) (hn : n ≤ 1048576) :
    Calls Try.prog 70 #[.int .i64 n] w fun e w' => MadeMat w (zeroM n n) e w' := by
  obtain ⟨i0, hi, hz0, hz1, hz2⟩ := info_parts Try.infoInts
  have hmk := run_make_row' (P := Try.prog) 24 3 (.int .i64 0) 8 Try.underlying24 Try.infoInt rfl .i64 .i64 n (by omega) (by omega)
  go_enter Try.func70, Try.ntmps70
  go_wp2_with fail
  have hb1 : Box ((w.alloc (Obj.cells #[Value.slice none 0 0] 44)).alloc (Obj.cells #[Value.slice none 0 0] 44)) (w.heap.size + 1) (.slice none 0 0) := ⟨by simp [go_sem], by simp [go_sem]⟩
  have hb0 : Box ((w.alloc (Obj.cells #[Value.slice none 0 0] 44)).alloc (Obj.cells #[Value.slice none 0 0] 44)) w.heap.size (.slice none 0 0) := ⟨by simp [go_sem], by simp [go_sem]⟩
  have hL := (Later.alloc w (Obj.cells #[Value.slice none 0 0] 44)).trans (Later.alloc _ (Obj.cells #[Value.slice none 0 0] 44))
  have hs : w.heap.size + 2 ≤ ((w.alloc (Obj.cells #[Value.slice none 0 0] 44)).alloc (Obj.cells #[Value.slice none 0 0] 44)).heap.size := by simp
  generalize (w.alloc (Obj.cells #[Value.slice none 0 0] 44)).alloc (Obj.cells #[Value.slice none 0 0] 44) = w2 at hb1 hb0 hL hs ⊢
  go_loopw [4] (fun i wr => ∃ (k : Nat) (v : Value), k ≤ n ∧ i = .int .i64 k ∧ Box wr (w.heap.size + 1) v ∧ Box wr w.heap.size (.slice none 0 0) ∧ OwnRows (w.heap.size + 2) wr.heap.size wr v (zeroM k n) ∧ Later w wr ∧ w.heap.size + 2 ≤ wr.heap.size)
    (fun i _ => n - (intOf i).toNat)
  case atStart => exact ⟨0, _, Nat.zero_le _, rfl, hb1, hb0, OwnRows.empty _ _ _, hL, hs⟩
  case round =>
    clear hb1 hb0 hL hs w2
    obtain ⟨k, v, hk, rfl, hb1, hb0, hR, hL, hs⟩ := hrel
    by_cases hlt : k < n
    · obtain ⟨a, cap, rfl, hcap⟩ := hR.shape
      obtain ⟨us, hl, ho, hbb, hin, hd⟩ := hR
      have HB1 := hid hb1
      have HB0 := hid hb0
      have HL := hid hL
      have HIN := hid hin
      have HD := hid hd
      have hlk : us.length ≤ k := by rw [hl]; simp [zeroM]
      have hMade := madeInts wr n hn
      have hcell := hb1.1
      have ho2 := hid ((ho.alloc (.cells (madeCells #[Value.int .i64 0] n) 3)).alloc (.cells #[Value.slice (some ⟨wr.heap.size, 0, none⟩) n n] 24)).drew
      have HHL := hid hl
      have hcellA := (Later.alloc wr (.cells (madeCells #[Value.int .i64 0] n) 3)).cell hcell
      have hcellB := (Later.alloc (wr.alloc (.cells (madeCells #[Value.int .i64 0] n) 3)) (.cells #[Value.slice (some ⟨wr.heap.size, 0, none⟩) n n] 24)).cell hcellA
      have HOB := hid (fun (b : Nat) (hb : (Value.slice a (zeroM k n).length cap).ownBlock = some b) => (show w.heap.size + 1 < b by have := (ho.lt b hb).1; omega))
      have HL2 := hid (show Later wr ((wr.alloc (.cells (madeCells #[Value.int .i64 0] n) 3)).alloc (.cells #[Value.slice (some ⟨wr.heap.size, 0, none⟩) n n] 24)).drew from ((Later.alloc _ _).trans (Later.alloc _ _)).trans (Later.drew _))
      have HNEWS := hid (World.news_of_block (w := ((wr.alloc (.cells (madeCells #[Value.int .i64 0] n) 3)).alloc (.cells #[Value.slice (some ⟨wr.heap.size, 0, none⟩) n n] 24)).drew) (B := wr.heap.size + 1) (cs := #[.slice (some ⟨wr.heap.size, 0, none⟩) n n]) (t := 24) (fr := (0, 0)) (by have h := heap_alloc_new (wr.alloc (.cells (madeCells #[Value.int .i64 0] n) 3)) (.cells #[Value.slice (some ⟨wr.heap.size, 0, none⟩) n n] 24); rw [show (wr.alloc (.cells (madeCells #[Value.int .i64 0] n) 3)).heap.size = wr.heap.size + 1 by simp] at h; exact h))
      clear hb1 hb0 hL hin hd hl ho hbb
      go_wp2_with fail
      go_region_law (refine step_append_lies _ (by rfl) _ _ _ (by rfl) (w.heap.size + 2) 24 i0 _ 1 24 Try.underlying26 hi hz0 hz1 hz2 rfl (by omega) (.slice a (zeroM k n).length cap) us.length us (by rfl) (by exact ho2.out) ⟨wr.heap.size + 1, 0, none⟩ 1 1 [.slice (some ⟨wr.heap.size, 0, none⟩) n n] (by rfl) (by rfl) HNEWS.out (by simp [Value.oneCell']) (by omega) (by unfold maxLen; omega) (by omega) (by simp; omega) (wr.heap.size + 2) (by simp) ?_; intro gg cap1 w1 hown1 hgrow hat hglt; have hB1 := Box.grown (HB1.out.later HL2.out) hgrow (fun e => Nat.lt_irrefl _ (HOB.out _ e)); obtain ⟨hB1c, hB1f⟩ := id hB1; have HW := hid (And.intro hown1 (And.intro hgrow hB1)); clear hown1 hgrow hB1)
      all_goals
        obtain ⟨hown1, hgrow, hB1⟩ := HW.out
        have hp := OwnRows.pushed (r := List.replicate n 0) HHL.out ho2.out (fun i hi => (HIN.out i hi).later HL2.out) HD.out (((hMade.later (Later.alloc _ (.cells #[Value.slice (some ⟨wr.heap.size, 0, none⟩) n n] 24))).later (Later.drew _)).wide (Nat.le_refl _) (by simp)) hs hown1 hgrow
        have HP := hid hp
        have HB := hid (hB1.set (.slice (some ⟨gg, 0, none⟩) (us.length + 1) cap1))
        have HB00 := hid ((HB0.out.later HL2.out).grown hgrow (fun e => by have := HOB.out _ e; omega))
        have HL4 := hid (show Later w (w1.setCell ⟨w.heap.size + 1, 0, none⟩ (.slice (some ⟨gg, 0, none⟩) (us.length + 1) cap1)) from ((HL.out.trans HL2.out).grown hgrow (by have := (HL.out.trans HL2.out).size; omega) (fun b e => by have := HOB.out b e; omega)).setCell (by simp) _)
        have hs4 : w.heap.size + 2 ≤ w1.heap.size := by have := hgrow.size; simp at this; omega
        clear hp hown1 hgrow hB1 HW hMade hlk
        go_wp2_with fail
        go_roundw
        case rel => exact ⟨k + 1, .slice (some ⟨gg, 0, none⟩) (us.length + 1) cap1, hlt, by go_num, HB.out, HB00.out.other (by simp) _, by rw [zeroM_succ]; exact (HP.out.setCell (by simp) _).wide (Nat.le_refl _) (by simp [World.setCell]), HL4.out, by simpa [World.setCell] using hs4⟩
        case measure => simp [intOf]; omega
    · have hkn : k = n := by omega
      subst hkn
      have hcell := hb1.1
      obtain ⟨hcell0, hfr0⟩ := id hb0
      have HB0 := hid hb0
      have HR := hid hR
      have HL := hid hL
      obtain ⟨a, cap, rfl, _⟩ := hR.shape
      clear hb1 hb0 hL hR
      go_wp2_with fail
      refine bodyPost_ret (v := .agg #[.slice a (zeroM k k).length cap]) (by simp [results, Try.results70, go_sem, hcell0]) rfl ⟨_, rfl, ?_, ?_⟩
      · exact (HR.out.setCell (a := ⟨w.heap.size, 0, none⟩) (by simp) _).wide (by omega) (by simp [World.setCell])
      · exact HL.out.setCell (by simp) _

def eqI (i j : Nat) : Int := if i = j then 1 else 0
def unitM (n : Nat) : List (List Int) := mk n eqI
theorem unitM_row (n i : Nat) (h : i < n) : (unitM n).getD i [] = (List.replicate n (0 : Int)).set i 1 := by
  unfold unitM
  rw [mk_row n _ i h]
  apply List.ext_getElem
  · simp
  · intro j h1 h2
    simp at h1
    by_cases hij : i = j
    · subst hij; simp [eqI]
    · simp [eqI, hij, List.getElem_set_ne hij]

/-- A row of ints of the call's own that has an element: its block, the cell, and what a store there leaves. -/
theorem OwnInts.cell {lo hi : Nat} {w : World} {u : Value} {zs : List Int} (h : OwnInts lo hi w u zs) {i : Nat} (hi' : i < zs.length) :
    ∃ g cap, u = .slice (some ⟨g, 0, none⟩) zs.length cap ∧ lo ≤ g ∧ g < hi ∧ w.cell? ⟨g, i, none⟩ = some (.int .i64 (zs.getD i 0)) ∧ w.frozen? ⟨g, i, none⟩ = false ∧
      ∀ x, OwnInts lo hi (w.setCell ⟨g, i, none⟩ (.int .i64 x)) u (zs.set i x) ∧ Wrote (fun b => u.ownBlock = some b) w (w.setCell ⟨g, i, none⟩ (.int .i64 x)) := by
  rcases h.form with ⟨_, rfl⟩ | ⟨g, cap, rfl⟩
  · simp at hi'
  · have ho := h.1
    have hb := h.blk (b := g) rfl
    refine ⟨g, cap, rfl, hb.1, hb.2, ?_, ho.frozenAt i, fun x => ⟨⟨?_, fun k hk => h.2 k hk⟩, Wrote.setCell w ⟨g, i, none⟩ _ rfl⟩⟩
    · rw [ho.cellAt i (by omega)]; simp [hi']
    · have := (ho.stored i (.int .i64 x)).1
      rw [List.length_set, List.map_set]
      exact this

/-- The first i rows of a grid of the call's own are as in M, the others as in Z. -/
def Mixed (lo hi : Nat) (w0 w : World) (v : Value) (M Z : List (List Int)) (i : Nat) : Prop :=
  ∃ L, L.length = Z.length ∧ L.take i = M.take i ∧ L.drop i = Z.drop i ∧ OwnRows lo hi w v L ∧ Wrote (fun b => lo ≤ b ∧ b < hi) w0 w
theorem Mixed.start {lo hi : Nat} {w : World} {v : Value} {M Z : List (List Int)} (h : OwnRows lo hi w v Z) : Mixed lo hi w w v M Z 0 := ⟨Z, rfl, by simp, rfl, h, Wrote.refl _ _⟩
theorem Mixed.full {lo hi : Nat} {w0 w : World} {v : Value} {M Z : List (List Int)} (h : Mixed lo hi w0 w v M Z Z.length) (hM : M.length = Z.length) : OwnRows lo hi w v M := by
  obtain ⟨L, hl, ht, hd, ho, hW⟩ := h
  rw [List.take_of_length_le (by omega), List.take_of_length_le (by omega)] at ht
  subst ht
  exact ho
theorem Mixed.row {lo hi : Nat} {w0 w : World} {v : Value} {M Z : List (List Int)} {i : Nat} (h : Mixed lo hi w0 w v M Z i) (hi' : i < Z.length) (hM : M.length = Z.length) :
    ∃ g cap u, v = .slice (some ⟨g, 0, none⟩) Z.length cap ∧ w.cell? ⟨g, i, none⟩ = some u ∧ OwnInts lo hi w u (Z.getD i []) ∧
      ∀ w2, OwnInts lo hi w2 u (M.getD i []) → Wrote (fun b => u.ownBlock = some b) w w2 → Mixed lo hi w0 w2 v M Z (i + 1) := by
  obtain ⟨L, hl, ht, hd, ho, hW⟩ := h
  have hLj : L.getD i [] = Z.getD i [] := by
    have h1 : (L.drop i).head? = (Z.drop i).head? := by rw [hd]
    simp only [List.head?_drop] at h1
    simp [List.getD_eq_getElem?_getD, h1]
  obtain ⟨g, cap, u, hv, hc, hu, hstep⟩ := ho.row (i := i) (by omega)
  rw [hLj] at hu
  rw [addr_add0] at hc
  refine ⟨g, cap, u, by rw [hv, hl], hc, hu, fun w2 h2 hW2 => ⟨L.set i (M.getD i []), by simp [hl], ?_, ?_, hstep w2 _ h2 hW2, hW.trans (hW2.mono fun b hb => hu.blk hb)⟩⟩
  · rw [List.take_succ_eq_append_getElem (by simp; omega), List.take_set_of_le (Nat.le_refl _), ht, take_snoc M i (by omega)]
    simp [show i < M.length by omega]
  · rw [List.drop_set_of_lt (by omega), ← List.drop_drop, hd, List.drop_drop]

theorem unitEntry_any (i j : Nat) (w : World) :
    Calls Try.prog 69 #[.int .i64 i, .int .i64 j] w fun e w' => e = .returned (.int .i64 (eqI i j)) ∧ w = w' := by
  by_cases h : i = j
  · subst h
    have hb : ((i : Int) == (i : Int)) = true := by simp
    go_enter Try.func69, Try.ntmps69
    go_wp2
    go_ret
    exact ⟨ret_int (by simp [eqI]), rfl⟩
  · have hb : ((i : Int) == (j : Int)) = false := by simp; omega
    go_enter Try.func69, Try.ntmps69
    go_wp2
    go_ret
    exact ⟨ret_int (by simp [eqI, h]), rfl⟩

set_option maxHeartbeats 1000000 in
theorem foUnit_any (n : Nat) (w : World) (hn : n ≤ 1048576) :
    Calls Try.prog 73 #[.int .i64 n] w fun e w' => MadeMat w (unitM n) e w' := by
  have hb0 : Box (w.alloc (Obj.cells #[Value.slice none 0 0] 44)) w.heap.size (.slice none 0 0) := ⟨by simp [go_sem], by simp [go_sem]⟩
  have HL0 := hid (Later.alloc w (Obj.cells #[Value.slice none 0 0] 44))
  go_enter Try.func73, Try.ntmps73
  go_wp2_with fail
  refine (foZero_any n _ hn).mono ?_
  rintro e w1 ⟨v1, rfl, ho1, hL1⟩
  have HB0 := hid (hb0.later hL1)
  have HL1 := hid (HL0.out.trans hL1)
  have hs1 : w.heap.size < w1.heap.size := by have := hL1.size; simp at this; omega
  obtain ⟨a, cap, hv, _⟩ := ho1.shape
  rw [show (zeroM n n).length = n by simp [zeroM]] at hv
  subst hv
  have HO := hid ((ho1.wide (show w.heap.size + 1 ≤ _ by simp) (Nat.le_refl _)).later (Later.alloc w1 (.cells #[Value.slice a n cap] 44)))
  clear hb0 hL1 ho1
  go_wp2_with fail
  have hbx : Box (w1.alloc (.cells #[Value.slice a n cap] 44)) w1.heap.size (.slice a n cap) := ⟨by simp [go_sem], by simp [go_sem]⟩
  have HBX := hid hbx
  have HB00 := hid (HB0.out.later (Later.alloc w1 (.cells #[Value.slice a n cap] 44)))
  have HL2 := hid (HL1.out.trans (Later.alloc w1 (.cells #[Value.slice a n cap] 44)))
  have hsz : w1.heap.size < (w1.alloc (.cells #[Value.slice a n cap] 44)).heap.size := by simp
  generalize w1.alloc (.cells #[Value.slice a n cap] 44) = w2 at HO hbx HBX HB00 HL2 hsz ⊢
  clear HB0 HL1 HL0 hbx
  generalize w1.heap.size = B at HO HBX hsz hs1 ⊢
  clear w1
  go_loopw [10] (fun i wr => ∃ k : Nat, k ≤ n ∧ i = .int .i64 k ∧ Mixed (w.heap.size + 1) B w2 wr (.slice a n cap) (unitM n) (zeroM n n) k) (fun i _ => n - (intOf i).toNat)
  case atStart => exact ⟨0, Nat.zero_le _, rfl, Mixed.start HO.out⟩
  case round =>
    obtain ⟨k, hk, rfl, hM⟩ := hrel
    have hBr : Box wr B (.slice a n cap) := by
      obtain ⟨_, _, _, _, _, hW⟩ := hM
      exact HBX.out.keep (hW.block _ (by omega))
    obtain ⟨hbc, hbf⟩ := hBr
    by_cases hlt : k < n
    · obtain ⟨g, cap', u, hv, hcell, hu, hstep⟩ := hM.row (by simpa [zeroM] using hlt) (by simp [unitM, mk, zeroM])
      rw [show (zeroM n n).getD k [] = List.replicate n 0 by simp [zeroM, hlt]] at hu
      obtain ⟨gu, cu, rfl, hgu1, hgu2, hcu, hfu, hset⟩ := hu.cell (i := k) (by simpa using hlt)
      simp only [Value.slice.injEq] at hv
      obtain ⟨rfl, hvn, rfl⟩ := hv
      have h1 := hstep _ (by rw [unitM_row n k hlt]; exact (hset 1).1) (hset 1).2
      simp only [List.length_replicate] at hcell
      have H1 := hid h1
      clear hM hu hstep hset h1 hvn
      go_wp2_with fail
      go_roundw
      case rel => exact ⟨k + 1, hlt, by go_num, H1.out⟩
      case measure => simp [intOf]; omega
    · have hkn : k = n := by omega
      subst hkn
      obtain ⟨hcell0, hfr0⟩ : Box wr w.heap.size (.slice none 0 0) := by
        obtain ⟨_, _, _, _, _, hW⟩ := hM
        exact HB00.out.keep (hW.block _ (by omega))
      have hR : OwnRows (w.heap.size + 1) B wr (.slice a k cap) (unitM k) := by
        have := hM
        rw [show k = (zeroM k k).length by simp [zeroM]] at this
        simpa [zeroM] using Mixed.full (Z := zeroM k k) (by simpa [zeroM] using hM) (by simp [unitM, mk, zeroM])
      have HR := hid hR
      have hLr : Later w wr := by
        obtain ⟨_, _, _, _, _, hW⟩ := hM
        exact Wrote.below HL2.out hW (fun i hi => by omega)
      have hszr : wr.heap.size = w2.heap.size := by obtain ⟨_, _, _, _, _, hW⟩ := hM; exact hW.size
      have HLR := hid hLr
      have HSZ := hid hszr
      clear hM hR hLr hszr
      go_wp2_with fail
      refine bodyPost_ret (v := .agg #[.slice a k cap]) (by simp [results, Try.results73, go_sem, hcell0]) rfl ⟨_, rfl, ?_, ?_⟩
      · exact (HR.out.setCell (a := ⟨w.heap.size, 0, none⟩) (by simp) _).wide (by omega) (by have := HSZ.out; simp [World.setCell]; omega)
      · exact HLR.out.setCell (by simp) _


theorem gridOf_pure (n : Nat) (F : Nat) (caps : Array Value) (f : Nat → Nat → Int) (w : World) (hn : n ≤ 1048576)
    (eg : ∀ args w, (callFunc F args).run Try.prog w = .ok (.enter F args) w)
    (hF : ∀ i j w1, i < n → j < n → Later w w1 → Calls Try.prog F (#[.int .i64 i, .int .i64 j] ++ caps) w1 fun e w2 => e = .returned (.int .i64 (f i j)) ∧ Later w1 w2) :
    Calls Try.prog 67 #[.int .i64 n, .func (.func F) #[] caps] w fun e w' => MadeRows w (mk n f) e w' := by
  refine (gridOf_any n F caps f (fun _ w1 => Later w w1) w hn eg (Later.refl w) (fun _ w1 w2 h1 h2 => Below.trans h1 h2) (fun i j w1 hi hj hJ hs => (hF i j w1 hi hj hJ).mono fun e w2 ⟨he, hL⟩ => ⟨he, hJ.trans hL, hL.upper _⟩)).mono ?_
  rintro e w' ⟨v, rfl, ho, hL⟩
  exact ⟨v, rfl, ho, hL⟩

/-- what matrixOf makes of a grid -/
def ifGood (zss : List (List Int)) : Option (List (List Int)) := if goodM 1000000 zss then some zss else none
def PickMat (w : World) (v : Value) (zss : List (List Int)) (e : Ending) (w' : World) : Prop :=
  e = .returned (.tuple #[.agg #[if goodM 1000000 zss then v else .slice none 0 0], .bool (goodM 1000000 zss)]) ∧ Later w w'

set_option maxHeartbeats 400000 in
theorem matrixOf_any (v : Value) (zss : List (List Int)) (w : World) (h : Rows2 w v zss) :
    Calls Try.prog 71 #[v] w fun e w' => PickMat w v zss e w' := by
  obtain ⟨a, cap, rfl, hl, _⟩ := id h
  have hL := (Later.alloc w (.cells #[Value.slice none 0 0] 44)).trans (Later.alloc _ (.cells #[Value.slice a zss.length cap] 44))
  have hb0 : Box ((w.alloc (.cells #[Value.slice none 0 0] 44)).alloc (.cells #[Value.slice a zss.length cap] 44)) w.heap.size (.slice none 0 0) := ⟨by simp [go_sem], by simp [go_sem]⟩
  have hb1 : Box ((w.alloc (.cells #[Value.slice none 0 0] 44)).alloc (.cells #[Value.slice a zss.length cap] 44)) (w.heap.size + 1) (.slice a zss.length cap) := ⟨by simp [go_sem], by simp [go_sem]⟩
  have HR := hid (h.later hL)
  have HL := hid hL
  clear h hL
  go_enter Try.func71, Try.ntmps71
  go_wp2_with fail
  generalize (w.alloc (.cells #[Value.slice none 0 0] 44)).alloc (.cells #[Value.slice a zss.length cap] 44) = w1 at hb0 hb1 HR HL ⊢
  refine (implIsMatrix_any _ zss _ HR.out).mono ?_
  rintro e w2 ⟨rfl, hL2⟩
  obtain ⟨hc0, hf0⟩ := hb0.later hL2
  obtain ⟨hc1, hf1⟩ := hb1.later hL2
  have HL2 := hid (HL.out.trans hL2)
  clear hb0 hb1 hL2
  cases hg : goodM 1000000 zss
  · have HG := hid hg; clear hg
    go_wp2_with fail
    refine bodyPost_ret (v := .tuple #[.agg #[.slice none 0 0], .bool false]) (by simp [results, Try.results71, go_sem, hc0]) rfl ⟨by rw [HG.out]; rfl, HL2.out.setCell (by simp) _⟩
  · have HG := hid hg; clear hg
    go_wp2_with fail
    refine bodyPost_ret (v := .tuple #[.agg #[.slice a zss.length cap], .bool true]) (by simp [results, Try.results71, go_sem, hc0]) rfl ⟨by rw [HG.out]; rfl, HL2.out.setCell (by simp) _⟩

/-- .. of a grid that a call has made since w0. -/
theorem matrixOf_ans (w0 : World) (v : Value) (zss : List (List Int)) (w : World) (hL : Later w0 w) (h : OwnRows w0.heap.size w.heap.size w v zss) :
    Calls Try.prog 71 #[v] w fun e w' => MatAns w0 (ifGood zss) e w' := by
  refine (matrixOf_any v zss w h.rows).mono ?_
  rintro e w' ⟨rfl, hL2⟩
  have hl := hL.trans hL2
  unfold MatAns ifGood
  cases goodM 1000000 zss
  · exact ⟨.slice none 0 0, rfl, OwnRows.empty _ _ _, hl⟩
  · exact ⟨v, rfl, (h.later hL2).wide (Nat.le_refl _) hL2.size, hl⟩

def unitAns (n : Int) : Option (List (List Int)) := if 1 ≤ n ∧ n ≤ 4 then some (unitM n.toNat) else none
theorem unitAns_good (n : Nat) (h1 : 1 ≤ n) (h2 : n ≤ 4) : ifGood (unitM n) = some (unitM n) := by
  unfold ifGood
  rw [if_pos]
  have : n = 1 ∨ n = 2 ∨ n = 3 ∨ n = 4 := by omega
  rcases this with rfl | rfl | rfl | rfl <;> decide

set_option maxHeartbeats 400000 in
theorem implUnitMatrix_any (n : Int) (w : World) :
    Calls Try.prog 35 #[.int .i64 n] w fun e w' => MatAns w (unitAns n) e w' := by
  have hb0 : Box (w.alloc (Obj.cells #[Value.slice none 0 0] 44)) w.heap.size (.slice none 0 0) := ⟨by simp [go_sem], by simp [go_sem]⟩
  have HL0 := hid (Later.alloc w (Obj.cells #[Value.slice none 0 0] 44))
  by_cases h : 1 ≤ n ∧ n ≤ 4
  · obtain ⟨m, rfl⟩ : ∃ m : Nat, n = (m : Int) := ⟨n.toNat, by omega⟩
    have hm : m ≤ 4 := by omega
    have hm1 : 1 ≤ m := by omega
    have hn1 : ¬ (m : Int) < 1 := by omega
    have hn4 : ¬ (4 : Int) < (m : Int) := by omega
    have HA := hid (show unitAns (m : Int) = ifGood (mk m eqI) by unfold unitAns; rw [if_pos h]; exact (unitAns_good m hm1 hm).symm)
    clear h
    go_enter Try.func35, Try.ntmps35
    go_wp2_with fail
    refine (gridOf_pure m 69 #[] eqI _ (by omega) Try.call69 (fun i j w1 _ _ _ => (unitEntry_any i j w1).mono fun e w2 ⟨he, hw⟩ => ⟨he, by subst hw; exact Later.refl _⟩)).mono ?_
    rintro e w1 ⟨v1, rfl, ho1, hL1⟩
    have HB0 := hid hb0
    have HO := hid ho1
    have HL1 := hid hL1
    clear hb0 ho1 hL1
    go_wp2_with fail
    refine (matrixOf_ans _ _ (mk m eqI) _ HL1.out HO.out).mono ?_
    rintro e w2 ⟨v2, rfl, ho2, hL2⟩
    obtain ⟨hc0, hf0⟩ := HB0.out.later hL2
    have HL2 := hid (HL0.out.trans hL2)
    obtain ⟨a, cap, rfl, _⟩ := ho2.shape
    have HO2 := hid ho2
    clear hL2 ho2
    go_wp2_with fail
    refine bodyPost_ret (v := .tuple #[.agg #[.slice a ((ifGood (mk m eqI)).getD []).length cap], .bool (ifGood (mk m eqI)).isSome]) (by simp [results, Try.results35, go_sem, hc0]) rfl ⟨_, by rw [HA.out], ?_, ?_⟩
    · rw [HA.out]
      exact (HO2.out.setCell (a := ⟨w.heap.size, 0, none⟩) (by simp) _).wide (by simp) (by simp [World.setCell])
    · exact HL2.out.setCell (by simp) _
  · have HA := hid (show unitAns n = none by unfold unitAns; rw [if_neg h])
    obtain ⟨hc0, hf0⟩ := hb0
    by_cases h1 : n < 1
    · go_enter Try.func35, Try.ntmps35
      go_wp2_with fail
      refine bodyPost_ret (v := .tuple #[.agg #[.slice none 0 0], .bool false]) (by simp [results, Try.results35, go_sem, hc0]) rfl ⟨_, by rw [HA.out]; rfl, by rw [HA.out]; exact OwnRows.empty _ _ _, ?_⟩
      first | exact HL0.out | exact HL0.out.setCell (by simp) _
    · have h4 : 4 < n := by omega
      go_enter Try.func35, Try.ntmps35
      go_wp2_with fail
      refine bodyPost_ret (v := .tuple #[.agg #[.slice none 0 0], .bool false]) (by simp [results, Try.results35, go_sem, hc0]) rfl ⟨_, by rw [HA.out]; rfl, by rw [HA.out]; exact OwnRows.empty _ _ _, ?_⟩
      first | exact HL0.out | exact HL0.out.setCell (by simp) _


def BoolRes (w : World) (o : Bool) (e : Ending) (w' : World) : Prop := e = .returned (.bool o) ∧ Later w w'
def BoolAns (w : World) (o : Option Bool) (e : Ending) (w' : World) : Prop := e = .returned (.tuple #[.bool (o.getD false), .bool o.isSome]) ∧ Later w w'
def NumAns (w : World) (o : Option Int) (e : Ending) (w' : World) : Prop := e = .returned (.tuple #[.int .i64 (o.getD 0), .bool o.isSome]) ∧ Later w w'
def IntsAns (w : World) (o : Option (List Int)) (e : Ending) (w' : World) : Prop :=
  ∃ v, e = .returned (.tuple #[v, .bool o.isSome]) ∧ OwnInts w.heap.size w'.heap.size w' v (o.getD []) ∧ Later w w'
theorem eqLL_self (xs : List (List Int)) : eqLL xs xs = true := by simp [eqLL]
theorem eqL_self (xs : List Int) : eqL xs xs = true := by simp [eqL]


def RowsAns (w : World) (o : Option (List (List Int))) (e : Ending) (w' : World) : Prop :=
  ∃ v, e = .returned (.tuple #[v, .bool o.isSome]) ∧ OwnRows w.heap.size w'.heap.size w' v (o.getD []) ∧ Later w w'
end Go.Proofs.Ytoaopmafokoaoab
