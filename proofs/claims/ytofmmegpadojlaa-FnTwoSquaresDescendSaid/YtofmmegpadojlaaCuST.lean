/- CuS, CuT: in one text. -/
import Derived.Test.YtofmmegpadojlaaCuAB
import Derived.Test.YtofmmegpadojlaaSqEG
import Derived.Test.YtofmmegpadojlaaSqK
namespace Go.Proofs.Ytofmmegpadojlaa
open Go.RowKit


theorem Cur.new9 (w : World) (v : Value) (bs : List Int) (h : BytesR w v bs) (ty : TypeId) : Cur w (w.alloc (.cells #[v, .int .i64 0, .int .u64 0] ty)) w.heap.size v bs 0 :=
  ⟨Later.alloc w _, Nat.le_refl _, h, by simp [go_sem], ⟨0, 0, by simp [go_sem], Nat.le_refl _, by simp [go_sem], by omega, by omega⟩, by simp [go_sem], by simp [go_sem]⟩
theorem Cur.lt9 {base w : World} {B : Nat} {v : Value} {bs : List Int} {m : Nat} (h : Cur base w B v bs m) : B < w.heap.size := World.block_lt_of_cell? w ⟨B, 0, none⟩ h.code
theorem Cur.alloc9 {base w : World} {B : Nat} {v : Value} {bs : List Int} {m : Nat} (h : Cur base w B v bs m) (o : Obj) : Cur base (w.alloc o) B v bs m := h.keep (Later.alloc w o)
theorem lit_cells9 (w : World) (zs : List Int) : ∀ i, i < zs.length → (w.alloc (.cells (zs.map (Value.int .i64)).toArray 3)).cell? ⟨w.heap.size, i, none⟩ = some (.int .i64 (zs.getD i 0)) := by
  intro i hi
  simp [go_sem, hi]
/-- one number, whichever it is -/
def OneNum9 (base : World) (e : Ending) (w' : World) : Prop := ∃ a : Int, e = .returned (.int .i64 a) ∧ Later base w'
def CurBit9 (base : World) (B : Nat) (v : Value) (bs : List Int) (m : Nat) (e : Ending) (w' : World) : Prop := ∃ b : Bool, e = .returned (.bool b) ∧ Cur base w' B v bs m
theorem curOne9_any (base w : World) (B : Nat) (v : Value) (bs : List Int) (m : Nat) (n : Int) (hm : m ≤ 900000000) (hn : n ≤ 9223372036854775807) (h : Cur base w B v bs m) :
    Calls Try.prog 99 #[.pointer (some ⟨B, 0, none⟩), .int .i64 n] w fun e w' => CurBit9 base B v bs (m + 2) e w' := by
  have H := hid h
  clear h
  go_enter Try.func99, Try.ntmps99
  go_wp2_with fail
  refine (curPick_any base w B v bs m n hm hn H.out).mono ?_
  rintro e w1 ⟨x, rfl, _, _, hC, _⟩
  have HC := hid hC
  clear hC
  go_wp2_with fail
  go_ret
  exact ⟨_, rfl, HC.out⟩
def ls9 (a b : Int) : Int := if a < b then a else b
theorem l1Least9_any (a b : Int) (w : World) : Calls Try.prog 113 #[.int .i64 a, .int .i64 b] w fun e w' => e = .returned (.int .i64 (ls9 a b)) ∧ w = w' := by
  by_cases h : a < b
  · have HA := hid (show ls9 a b = a by unfold ls9; rw [if_pos h])
    go_enter Try.func113, Try.ntmps113
    go_wp2_with fail
    go_ret
    exact ⟨by rw [HA.out]; rfl, rfl⟩
  · have HA := hid (show ls9 a b = b by unfold ls9; rw [if_neg h])
    go_enter Try.func113, Try.ntmps113
    go_wp2_with fail
    go_ret
    exact ⟨by rw [HA.out]; rfl, rfl⟩
set_option maxRecDepth 20000 in
set_option maxHeartbeats 4000000 in
theorem curPrime_any (base w : World) (B : Nat) (v : Value) (bs : List Int) (m : Nat) (most : Int) (hm : m ≤ 800000000) (h2 : 3 ≤ most ∧ most ≤ 1000000) (h : Cur base w B v bs m) :
    Calls Try.prog 102 #[.pointer (some ⟨B, 0, none⟩), .int .i64 most] w fun e w' => OneNum9 base e w' := by
  have H := hid h
  clear h
  go_enter Try.func102, Try.ntmps102
  go_wp2_with fail
  refine (curOne9_any base w B v bs m 8 (by omega) (by omega) H.out).mono ?_
  rintro e w2 ⟨b, rfl, hC⟩
  have HC2 := hid hC
  have HLT := hid hC.lt9
  clear hC
  cases b
  · have HLS := hid (l1Least9_any most 3000 w2)
    obtain ⟨l, hl⟩ : ∃ l, ls9 most 3000 = l := ⟨_, rfl⟩
    have hlb : 3 ≤ l ∧ l ≤ 3000 := by rw [← hl]; unfold ls9; split <;> omega
    rw [hl] at HLS
    clear hl
    go_wp2_with fail
    refine HLS.out.mono ?_
    rintro e w3 ⟨rfl, rfl⟩
    go_wp2_with fail
    refine (curPick_any base _ B v bs _ (l - 2) (by omega) (by omega) HC2.out).mono ?_
    rintro e w3 ⟨r, rfl, r0, r1, hC, _⟩
    have HL := hid hC.later
    have hr2 : r ≤ 3000 := by split at r1 <;> omega
    clear hC r1
    go_wp2_with fail
    go_loopw [5] (fun x wr => ∃ n : Nat, x = .int .i64 n ∧ 2 ≤ n ∧ n ≤ 3002 ∧ wr = w3) (fun x _ => (intOf x).toNat)
    case atStart => exact ⟨(2 + r).toNat, by rw [Int.toNat_of_nonneg (by omega)], by omega, by omega, rfl⟩
    case round =>
      obtain ⟨n, rfl, n2, n3, rfl⟩ := hrel
      have HP := hid (sqPrime_any (n : Int) wr (by omega))
      have hp2 : n = 2 → primI (n : Int) = true := fun e => by subst e; decide
      obtain ⟨q, hq⟩ : ∃ q, primI (n : Int) = q := ⟨_, rfl⟩
      rw [hq] at HP hp2
      clear hq
      cases q
      · have hn3 : 3 ≤ n := by
          refine Nat.not_lt.1 fun hh => ?_
          have := hp2 (by omega)
          cases this
        clear hp2
        go_wp2_with fail
        refine HP.out.mono ?_
        rintro e w4 ⟨rfl, rfl⟩
        go_wp2_with fail
        go_roundw
        case rel => exact ⟨n - 1, by go_num, by omega, by omega, trivial⟩
        case measure => simp [intOf]; omega
      · clear hp2
        go_wp2_with fail
        refine HP.out.mono ?_
        rintro e w4 ⟨rfl, rfl⟩
        go_wp2_with fail
        go_ret
        exact ⟨_, rfl, HL.out⟩
  · have hl := lit_cells9 w2 [-1, 0, 1, 2, 3, 4, most, most + 1]
    have HAM := hid (curAmong_any base _ B v bs _ w2.heap.size 8 [-1, 0, 1, 2, 3, 4, most, most + 1] (by omega) (by simp) (by simp) (by have := HLT.out; omega) (HC2.out.alloc9 (.cells (([-1, 0, 1, 2, 3, 4, most, most + 1] : List Int).map (Value.int .i64)).toArray 3)) hl)
    clear hl
    go_wp2_with fail
    refine HAM.out.mono ?_
    rintro e w5 ⟨z, rfl, _, hC, _⟩
    have HL5 := hid hC.later
    clear hC
    go_wp2_with fail
    go_ret
    exact ⟨z, rfl, HL5.out⟩
set_option maxRecDepth 20000 in
set_option maxHeartbeats 4000000 in
theorem drawFourStart_any (v : Value) (bs : List Int) (w : World) (h : BytesR w v bs) :
    Calls Try.prog 72 #[v] w fun e w' => OneNum9 w e w' := by
  have HC := hid (fun ty => Cur.new9 w v bs h ty)
  obtain ⟨a, cap, rfl, _⟩ := id h
  clear h
  go_enter Try.func72, Try.ntmps72
  go_wp2_with fail
  refine (curPrime_any w _ w.heap.size _ bs 0 2000 (by omega) (by omega) (HC.out _)).mono ?_
  rintro e w1 ⟨x, rfl, hL⟩
  have HL := hid hL
  clear hL
  go_wp2_with fail
  go_ret
  exact ⟨x, rfl, HL.out⟩
theorem drawFourDescent_any (v : Value) (bs : List Int) (w : World) (h : BytesR w v bs) :
    Calls Try.prog 20 #[v] w fun e w' => OneNum9 w e w' := by
  have HC := hid (drawFourStart_any v bs w h)
  clear h
  go_enter Try.func20, Try.ntmps20
  go_wp2_with fail
  refine HC.out.mono ?_
  rintro e w1 ⟨x, rfl, hL⟩
  have HL := hid hL
  clear hL
  go_wp2_with fail
  go_ret
  exact ⟨x, rfl, HL.out⟩
set_option maxRecDepth 20000 in
set_option maxHeartbeats 4000000 in
theorem drawRootOfMinusOne_any (v : Value) (bs : List Int) (w : World) (h : BytesR w v bs) :
    Calls Try.prog 56 #[v] w fun e w' => OneNum9 w e w' := by
  have HC := hid (fun ty => Cur.new9 w v bs h ty)
  obtain ⟨a, cap, rfl, _⟩ := id h
  clear h
  go_enter Try.func56, Try.ntmps56
  go_wp2_with fail
  refine (curPrime_any w _ w.heap.size _ bs 0 1000000 (by omega) (by omega) (HC.out _)).mono ?_
  rintro e w1 ⟨x, rfl, hL⟩
  have HL := hid hL
  clear hL
  go_wp2_with fail
  go_ret
  exact ⟨x, rfl, HL.out⟩
theorem drawTwoDescent_any (v : Value) (bs : List Int) (w : World) (h : BytesR w v bs) :
    Calls Try.prog 8 #[v] w fun e w' => OneNum9 w e w' := by
  have HC := hid (drawRootOfMinusOne_any v bs w h)
  clear h
  go_enter Try.func8, Try.ntmps8
  go_wp2_with fail
  refine HC.out.mono ?_
  rintro e w1 ⟨x, rfl, hL⟩
  have HL := hid hL
  clear hL
  go_wp2_with fail
  go_ret
  exact ⟨x, rfl, HL.out⟩


set_option maxRecDepth 20000 in
set_option maxHeartbeats 4000000 in
theorem curNumber9_any (base w : World) (B : Nat) (v : Value) (bs : List Int) (m : Nat) (most : Int) (hm : m ≤ 800000000) (h2 : 3 ≤ most ∧ most ≤ 1000000) (h : Cur base w B v bs m) :
    Calls Try.prog 66 #[.pointer (some ⟨B, 0, none⟩), .int .i64 most] w fun e w' => ∃ x : Int, e = .returned (.int .i64 x) ∧ Cur base w' B v bs (m + 4) := by
  have H := hid h
  clear h
  go_enter Try.func66, Try.ntmps66
  go_wp2_with fail
  refine (curPick_any base w B v bs m 8 (by omega) (by omega) H.out).mono ?_
  rintro e w2 ⟨c, rfl, c0, c1, hC, _⟩
  have HC2 := hid hC
  have HLT := hid hC.lt9
  clear hC c1
  by_cases e0 : c = 0
  · subst e0
    have hl := lit_cells9 w2 [-1, 0, 1, 2, 3, 7, most, most + 1]
    have HAM := hid (curAmong_any base _ B v bs _ w2.heap.size 8 [-1, 0, 1, 2, 3, 7, most, most + 1] (by omega) (by simp) (by simp) (by have := HLT.out; omega) (HC2.out.alloc9 (.cells (([-1, 0, 1, 2, 3, 7, most, most + 1] : List Int).map (Value.int .i64)).toArray 3)) hl)
    clear hl
    go_wp2_with fail
    refine HAM.out.mono ?_
    rintro e w5 ⟨z, rfl, _, hC, _⟩
    have HC5 := hid hC
    clear hC
    go_wp2_with fail
    go_ret
    exact ⟨z, rfl, HC5.out.mono (by omega)⟩
  · have e0' : (c == 0) = false := by simp [e0]
    by_cases e1 : c = 1
    · subst e1
      go_wp2_with fail
      refine (curPick_any base w2 B v bs _ most (by omega) (by omega) HC2.out).mono ?_
      rintro e w5 ⟨z, rfl, _, _, hC, _⟩
      have HC5 := hid hC
      clear hC
      go_wp2_with fail
      go_ret
      exact ⟨z, rfl, HC5.out.mono (by omega)⟩
    · have e1' : (c == 1) = false := by simp [e1]
      have HLS := hid (l1Least9_any most 600 w2)
      obtain ⟨l, hl⟩ : ∃ l, ls9 most 600 = l := ⟨_, rfl⟩
      have hlb : 3 ≤ l ∧ l ≤ 600 := by rw [← hl]; unfold ls9; split <;> omega
      rw [hl] at HLS
      clear hl
      go_wp2_with fail
      refine HLS.out.mono ?_
      rintro e w3 ⟨rfl, rfl⟩
      go_wp2_with fail
      refine (curPick_any base _ B v bs _ l (by omega) (by omega) HC2.out).mono ?_
      rintro e w5 ⟨z, rfl, _, _, hC, _⟩
      have HC5 := hid hC
      clear hC
      go_wp2_with fail
      go_ret
      exact ⟨z, rfl, HC5.out.mono (by omega)⟩
set_option maxRecDepth 20000 in
set_option maxHeartbeats 4000000 in
theorem drawIsPrimeNumber_any (v : Value) (bs : List Int) (w : World) (h : BytesR w v bs) :
    Calls Try.prog 14 #[v] w fun e w' => OneNum9 w e w' := by
  have HC := hid (fun ty => Cur.new9 w v bs h ty)
  obtain ⟨a, cap, rfl, _⟩ := id h
  clear h
  go_enter Try.func14, Try.ntmps14
  go_wp2_with fail
  refine (curNumber9_any w _ w.heap.size _ bs 0 1000000 (by omega) (by omega) (HC.out _)).mono ?_
  rintro e w1 ⟨x, rfl, hC⟩
  have HL := hid hC.later
  clear hC
  go_wp2_with fail
  go_ret
  exact ⟨x, rfl, HL.out⟩
theorem Cur.keepB {base w w' : World} {B : Nat} {v : Value} {bs : List Int} {m : Nat} (h : Cur base w B v bs m) (k : w'.heap[B]? = w.heap[B]?) (hl : Later base w') : Cur base w' B v bs m := by
  obtain ⟨_, h2, h3, h4, ⟨a, s, r1, r2, r3, r4⟩, h6, h7⟩ := h
  exact ⟨hl, h2, h3, cell_keep h4 k, ⟨a, s, cell_keep r1 k, r2, cell_keep r3 k, r4⟩, (World.frozen?_of_block k).trans h6, (World.frozen?_of_block k).trans h7⟩
theorem OwnInts.store9 {lo hi : Nat} {w : World} {g c : Nat} {zs : List Int} (h : OwnInts lo hi w (.slice (some ⟨g, 0, none⟩) zs.length c) zs) (k : Nat) (x : Int) :
    OwnInts lo hi (w.setCell ⟨g, k, none⟩ (.int .i64 x)) (.slice (some ⟨g, 0, none⟩) zs.length c) (zs.set k x) := by
  have h1 := (h.1.stored k (.int .i64 x)).1
  refine ⟨?_, h.2⟩
  rw [List.length_set, List.map_set]
  exact h1
/-- a list of numbers, whichever they are, and the cursor behind -/
def CurList (base w : World) (B : Nat) (v : Value) (bs : List Int) (m : Nat) (e : Ending) (w' : World) : Prop :=
  ∃ u zs, e = .returned u ∧ OwnInts w.heap.size w'.heap.size w' u zs ∧ zs.length ≤ 10 ∧ Cur base w' B v bs m ∧ w.grownBy w' (some B)
set_option maxRecDepth 20000 in
set_option maxHeartbeats 4000000 in
theorem curParts_any (base w : World) (B : Nat) (v : Value) (bs : List Int) (m n : Nat) (hm : m ≤ 800000000) (hn : 1 ≤ n ∧ n ≤ 4) (h : Cur base w B v bs m) :
    Calls Try.prog 79 #[.pointer (some ⟨B, 0, none⟩), .int .i64 n] w fun e w' => CurList base w B v bs (m + 20) e w' := by
  have H := hid h
  have HB := hid h.lt9
  clear h
  go_enter Try.func79, Try.ntmps79
  go_wp2_with fail
  go_loopw [5] (fun o wr => ∃ L : List Int, OwnInts w.heap.size wr.heap.size wr o L ∧ L.length ≤ n ∧ Cur base wr B v bs (m + 2 * L.length) ∧ w.grownBy wr (some B)) (fun o _ => n - lenOfH o)
  case atStart => exact ⟨[], ownInts_nil9 _ _ _, Nat.zero_le _, H.out, grown_refl w B⟩
  case round =>
    obtain ⟨L, hO, hl, hC, hG⟩ := hrel
    obtain ⟨p1, c1, rfl, _⟩ := hO.shape
    have HO := hid hO
    have HC := hid hC
    have HG := hid hG
    have HBr := hid (Nat.lt_of_lt_of_le HB.out hG.size)
    clear hO hC hG
    by_cases hlt : (L.length : Int) < (n : Int)
    · go_wp2_with fail
      refine (curPick_any base wr B v bs _ 41 (by omega) (by omega) HC.out).mono ?_
      rintro e w3 ⟨x, rfl, x0, x1, hC, hG⟩
      have HC3 := hid hC
      have HO3 := hid (show OwnInts w.heap.size w3.heap.size w3 (.slice p1 L.length c1) L from (HO.out.keep fun b h1 h2 => hG.block b h2 (fun e => by injection e with e; have := HB.out; omega)).wide (Nat.le_refl _) hG.size)
      have HG3 := hid (grown_trans HG.out hG)
      have x2 : x ≤ 40 := by simpa using x1
      have HLN := hid (show L.length ≤ 1000000 by omega)
      clear hC hG x1
      go_wp2_with (at_builtin; refine wpList_push1 (by rfl) _ _ (by rfl) w.heap.size w3 _ (.slice p1 L.length c1) L (x - 20) (by rfl) HG3.out.size HO3.out HLN.out (by rfl) rfl ?_)
      intro g c w4 hO4 hG4 _
      have hb4 : ∀ b, (Value.slice p1 L.length c1).ownBlock = some b → w.heap.size ≤ b := fun b hb => (HO3.out.1.lt b hb).1
      have kB := hG4.block B (Nat.lt_of_lt_of_le HB.out HG3.out.size) (fun e => by have := hb4 B e.symm; have := HB.out; omega)
      have HC4 := hid (HC3.out.keepB kB (HC3.out.later.grown hG4 HC3.out.later.size (fun b hb => by have := hb4 b hb; have := HC3.out.behind; have := HB.out; omega)))
      have HG4 := hid (show w.grownBy w4 (some B) from ⟨hG4.os.trans HG3.out.os, hG4.tape.trans HG3.out.tape, hG4.output.trans HG3.out.output, Nat.le_trans HG3.out.size hG4.size, fun k hk hne => (hG4.block k (Nat.lt_of_lt_of_le hk HG3.out.size) (fun e => by have := hb4 k e.symm; omega)).trans (HG3.out.block k hk hne)⟩)
      have HO4 := hid hO4
      clear hO4 hG4 hb4 kB
      go_wp2_with fail
      go_roundw
      case rel => exact ⟨L ++ [x - 20], by simpa using HO4.out, by simp; omega, by have h := HC4.out; exact h.mono (by simp; omega), HG4.out⟩
      case measure => simp [lenOfH]; omega
    · have hle : n = L.length := by omega
      subst hle
      go_wp2_with fail
      refine (curPick_any base wr B v bs _ 14 (by omega) (by omega) HC.out).mono ?_
      rintro e w3 ⟨x, rfl, x0, x1, hC, hG⟩
      have HC3 := hid hC
      have HO3 := hid (show OwnInts w.heap.size w3.heap.size w3 (.slice p1 L.length c1) L from (HO.out.keep fun b h1 h2 => hG.block b h2 (fun e => by injection e with e; have := HB.out; omega)).wide (Nat.le_refl _) hG.size)
      have HG3 := hid (grown_trans HG.out hG)
      have HLN := hid (show L.length ≤ 1000000 by omega)
      clear hC hG x1
      by_cases e0 : x = 0
      · subst e0
        have hl := lit_cells9 w3 [-10001, -10000, 10000, 10001]
        have HAM := hid (curAmong_any base _ B v bs _ w3.heap.size 4 [-10001, -10000, 10000, 10001] (by omega) (by simp) (by simp) (by have := HC3.out.lt9; omega) (HC3.out.alloc9 (.cells (([-10001, -10000, 10000, 10001] : List Int).map (Value.int .i64)).toArray 3)) hl)
        clear hl
        obtain ⟨a1, cap1, e1, _, _, _, hsh⟩ := ownsRow_shape HO3.out.1
        obtain ⟨g, rfl, _⟩ := hsh 0 (by omega)
        simp only [Value.slice.injEq] at e1
        obtain ⟨rfl, e62, rfl⟩ := e1
        clear hsh e62
        go_wp2_with fail
        refine HAM.out.mono ?_
        rintro e w5 ⟨z, rfl, _, hC, hG⟩
        have HC5 := hid hC
        have hG5 := grown_trans (grown_of_later (Later.alloc w3 (.cells (([-10001, -10000, 10000, 10001] : List Int).map (Value.int .i64)).toArray 3)) B) hG
        have HO5 := hid (show OwnInts w.heap.size w5.heap.size w5 (.slice (some ⟨g, 0, none⟩) L.length c1) L from (HO3.out.keep fun b h1 h2 => hG5.block b h2 (fun e => by injection e with e; have := HB.out; omega)).wide (Nat.le_refl _) hG5.size)
        have HG5 := hid (grown_trans HG3.out hG5)
        clear hC hG hG5
        have hgw : w.heap.size ≤ g := (HO5.out.1.lt g rfl).1
        have hc0 := HO5.out.1.cellAt 0 (by omega)
        have hf0 := HO5.out.1.frozenAt 0
        obtain ⟨y, hy⟩ : ∃ y, w5.cell? ⟨g, 0, none⟩ = some y := by
          rw [hc0]
          cases L with
          | nil => simp at hn
          | cons q L => exact ⟨_, rfl⟩
        have HO6 := hid (HO5.out.store9 0 z)
        have HG6 := hid (show w.grownBy (w5.setCell ⟨g, 0, none⟩ (.int .i64 z)) (some B) from ⟨HG5.out.os, HG5.out.tape, HG5.out.output, by simpa using HG5.out.size, fun k hk hne => (heap_setCell_other w5 ⟨g, 0, none⟩ k _ (by simp only; omega)).trans (HG5.out.block k hk hne)⟩)
        have HC6 := hid (HC5.out.keepB (heap_setCell_other w5 ⟨g, 0, none⟩ B (.int .i64 z) (by have := HB.out; simp only; omega)) (HC5.out.later.setCell (by have := HC5.out.behind; have := HB.out; simp only; omega) (.int .i64 z)))
        have hlen : (0 : Int) < (L.length : Int) := by omega
        clear hc0
        go_wp2_with fail
        go_ret
        exact ⟨_, L.set 0 z, rfl, HO6.out.wide (Nat.le_refl _) (show w5.heap.size ≤ (w5.setCell ⟨g, 0, none⟩ (.int .i64 z)).heap.size from Nat.le_of_eq (World.size_setCell _ _ _).symm), by simp; omega, HC6.out.mono (by omega), HG6.out⟩
      · have e0' : (x == 0) = false := by simp [e0]
        by_cases e1 : x = 1
        · subst e1
          go_wp2_with (at_builtin; refine wpList_push1 (by rfl) _ _ (by rfl) w.heap.size w3 _ (.slice p1 L.length c1) L 1 (by rfl) HG3.out.size HO3.out HLN.out (by rfl) rfl ?_)
          intro g c w4 hO4 hG4 _
          have hb4 : ∀ b, (Value.slice p1 L.length c1).ownBlock = some b → w.heap.size ≤ b := fun b hb => (HO3.out.1.lt b hb).1
          have kB := hG4.block B (Nat.lt_of_lt_of_le HB.out HG3.out.size) (fun e => by have := hb4 B e.symm; have := HB.out; omega)
          have HC4 := hid (HC3.out.keepB kB (HC3.out.later.grown hG4 HC3.out.later.size (fun b hb => by have := hb4 b hb; have := HC3.out.behind; have := HB.out; omega)))
          have HG4 := hid (show w.grownBy w4 (some B) from ⟨hG4.os.trans HG3.out.os, hG4.tape.trans HG3.out.tape, hG4.output.trans HG3.out.output, Nat.le_trans HG3.out.size hG4.size, fun k hk hne => (hG4.block k (Nat.lt_of_lt_of_le hk HG3.out.size) (fun e => by have := hb4 k e.symm; omega)).trans (HG3.out.block k hk hne)⟩)
          have HO4 := hid hO4
          clear hO4 hG4 hb4 kB
          go_wp2_with fail
          go_ret
          exact ⟨_, L ++ [1], rfl, by simpa using HO4.out, by simp; omega, HC4.out.mono (by omega), HG4.out⟩
        · have e1' : (x == 1) = false := by simp [e1]
          go_wp2_with fail
          go_ret
          exact ⟨_, L, rfl, HO3.out, by omega, HC3.out.mono (by omega), HG3.out⟩
/-- two lists of numbers, whichever they are -/
def TwoLists9 (base : World) (e : Ending) (w' : World) : Prop := ∃ u v za zb, e = .returned (.tuple #[u, v]) ∧ Ints w' u za ∧ Ints w' v zb ∧ Later base w'
set_option maxRecDepth 20000 in
set_option maxHeartbeats 4000000 in
theorem drawMultiplyFour_any (v : Value) (bs : List Int) (w : World) (h : BytesR w v bs) :
    Calls Try.prog 25 #[v] w fun e w' => TwoLists9 w e w' := by
  have HC := hid (fun ty => Cur.new9 w v bs h ty)
  obtain ⟨a, cap, rfl, _⟩ := id h
  clear h
  go_enter Try.func25, Try.ntmps25
  go_wp2_with fail
  refine (curParts_any w _ w.heap.size _ bs 0 4 (by omega) (by omega) (HC.out _)).mono ?_
  rintro e w1 ⟨u1, z1, rfl, hO1, _, hC1, hG1⟩
  have HC1 := hid hC1
  have HO1 := hid hO1
  clear hC1 hO1 hG1
  go_wp2_with fail
  refine (curParts_any w w1 w.heap.size _ bs _ 4 (by omega) (by omega) HC1.out).mono ?_
  rintro e w2 ⟨u2, z2, rfl, hO2, _, hC2, hG2⟩
  have HL := hid hC2.later
  have HO3 := hid (show OwnInts _ _ w2 u1 z1 from HO1.out.keep fun b h1 h2 => hG2.block b h2 (fun e => by injection e with e; simp at h1; omega))
  have HO2 := hid hO2
  clear hC2 hO2 hG2
  go_wp2_with fail
  go_ret2
  exact ⟨u1, u2, z1, z2, rfl, HO3.out.ints, HO2.out.ints, HL.out⟩
end Go.Proofs.Ytofmmegpadojlaa
