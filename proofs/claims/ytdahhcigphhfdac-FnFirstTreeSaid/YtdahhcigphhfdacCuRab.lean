/- CuRa, CuRb: in one text. -/
import Derived.Test.YtdahhcigphhfdacCuG
import Derived.Test.YtdahhcigphhfdacRiC
import Derived.Test.YtdahhcigphhfdacRiLa
namespace Go.Proofs.Ytdahhcigphhfdac
open Go.RowKit


def TwoNumG (base : World) (e : Ending) (w' : World) : Prop := ∃ a b : Int, e = .returned (.tuple #[.int .i64 a, .int .i64 b]) ∧ Later base w'
/-- a list that a method of the cursor draws -/
def CurListG (base : World) (B : Nat) (v : Value) (bs : List Int) (m : Nat) (e : Ending) (w' : World) : Prop :=
  ∃ u zs, e = .returned u ∧ OwnInts (B + 1) w'.heap.size w' u zs ∧ zs.length ≤ 1000 ∧ Cur base w' B v bs m
def ListNumG (base : World) (e : Ending) (w' : World) : Prop := ∃ u zs, ∃ k : Int, e = .returned (.tuple #[u, .int .i64 k]) ∧ OwnInts base.heap.size w'.heap.size w' u zs ∧ zs.length ≤ 1000 ∧ Later base w'
theorem intsMadeG {w w' : World} {B : Nat} {v : Value} {zs : List Int} (h : OwnInts w.heap.size w'.heap.size w' v zs) (hB : B < w.heap.size) : OwnInts (B + 1) w'.heap.size w' v zs := h.wide hB (Nat.le_refl _)
set_option maxRecDepth 20000 in
set_option maxHeartbeats 4000000 in
theorem drawRightOfPair_any (v : Value) (bs : List Int) (w : World) (h : BytesR w v bs) :
    Calls Try.prog 8 #[v] w fun e w' => TwoNumG w e w' := by
  have HC := hid (fun ty => Cur.newG w v bs h ty)
  obtain ⟨a, cap, rfl, _⟩ := id h
  clear h
  go_enter Try.func8, Try.ntmps8
  go_wp2_with fail
  refine (curPick_any w _ w.heap.size _ bs 0 60 (by omega) (by omega) (HC.out _)).mono ?_
  rintro e w1 ⟨p, rfl, p0, p1, hC, _⟩
  have HC1 := hid hC
  obtain ⟨m, hm⟩ : ∃ q, 2 + p = q := ⟨_, rfl⟩
  have m1 : 2 ≤ m := by omega
  have m2 : m ≤ 61 := by simp at p1; omega
  have hmw := wrapQ (q := m) (by omega)
  clear hC p1 p0
  go_wp2_with fail
  refine (curPick_any w w1 w.heap.size _ bs _ m (by omega) (by omega) HC1.out).mono ?_
  rintro e w2 ⟨q, rfl, q0, q1, hC, _⟩
  have HC2 := hid hC
  have q2 : q ≤ 60 := by split at q1 <;> omega
  obtain ⟨n, hn⟩ : ∃ k, 1 + q = k := ⟨_, rfl⟩
  have hnw := wrapQ (q := n) (by omega)
  clear hC q1
  go_wp2_with fail
  refine (curPick_any w w2 w.heap.size _ bs _ 12 (by omega) (by omega) HC2.out).mono ?_
  rintro e w3 ⟨c, rfl, c0, c1, hC, _⟩
  have HC3 := hid hC
  have HL3 := hid hC.later
  clear hC c1 hm hn
  by_cases e0 : c = 0
  · subst e0
    go_wp2_with fail
    refine (curLitG_any w w3 w.heap.size _ bs _ [-1, 0, 1, 31622, 31623, 31624, 4611686018427387904] (by omega) (by simp) (by simp) HC3.out).mono ?_
    rintro e w4 ⟨z, rfl, _, hC, _⟩
    have HL4 := hid hC.later
    clear hC
    go_wp2_with fail
    go_ret2
    exact ⟨z, n, rfl, HL4.out⟩
  · have e0' : (c == 0) = false := by simp [e0]
    by_cases e1 : c = 1
    · subst e1
      go_wp2_with fail
      refine (curLitG_any w w3 w.heap.size _ bs _ [-1, 0, m, 4611686018427387904] (by omega) (by simp) (by simp) HC3.out).mono ?_
      rintro e w4 ⟨z, rfl, _, hC, _⟩
      have HL4 := hid hC.later
      clear hC
      go_wp2_with fail
      go_ret2
      exact ⟨m, z, rfl, HL4.out⟩
    · have e1' : (c == 1) = false := by simp [e1]
      go_wp2_with fail
      go_ret2
      exact ⟨m, n, rfl, HL3.out⟩
set_option maxRecDepth 20000 in
set_option maxHeartbeats 4000000 in
theorem drawRightUpTo_any (v : Value) (bs : List Int) (w : World) (h : BytesR w v bs) :
    Calls Try.prog 17 #[v] w fun e w' => OneNumG w e w' := by
  have HC := hid (fun ty => Cur.newG w v bs h ty)
  obtain ⟨a, cap, rfl, _⟩ := id h
  clear h
  go_enter Try.func17, Try.ntmps17
  go_wp2_with fail
  refine (curOneG_any w _ w.heap.size _ bs 0 10 (by omega) (by omega) (HC.out _)).mono ?_
  rintro e w1 ⟨b, rfl, hC, _⟩
  have HC1 := hid hC
  clear hC
  cases b
  · go_wp2_with fail
    refine (curPick_any w w1 w.heap.size _ bs _ 400 (by omega) (by omega) HC1.out).mono ?_
    rintro e w2 ⟨q, rfl, _, _, hC, _⟩
    have HL4 := hid hC.later
    clear hC
    go_wp2_with fail
    go_ret
    exact ⟨q, rfl, HL4.out⟩
  · go_wp2_with fail
    refine (curLitG_any w w1 w.heap.size _ bs _ [-1, 0, 4, 5, 1000, 5001] (by omega) (by simp) (by simp) HC1.out).mono ?_
    rintro e w4 ⟨z, rfl, _, hC, _⟩
    have HL4 := hid hC.later
    clear hC
    go_wp2_with fail
    go_ret
    exact ⟨z, rfl, HL4.out⟩
set_option maxRecDepth 20000 in
set_option maxHeartbeats 4000000 in
theorem drawBergMatrix_any (v : Value) (bs : List Int) (w : World) (h : BytesR w v bs) :
    Calls Try.prog 25 #[v] w fun e w' => OneNumG w e w' := by
  have HC := hid (fun ty => Cur.newG w v bs h ty)
  obtain ⟨a, cap, rfl, _⟩ := id h
  clear h
  go_enter Try.func25, Try.ntmps25
  go_wp2_with fail
  refine (curPick_any w _ w.heap.size _ bs 0 5 (by omega) (by omega) (HC.out _)).mono ?_
  rintro e w1 ⟨q, rfl, _, _, hC, _⟩
  have HL4 := hid hC.later
  clear hC
  go_wp2_with fail
  go_ret
  exact ⟨_, rfl, HL4.out⟩
theorem drawPriceMatrix_any (v : Value) (bs : List Int) (w : World) (h : BytesR w v bs) :
    Calls Try.prog 38 #[v] w fun e w' => OneNumG w e w' := by
  have HC := hid (drawBergMatrix_any v bs w h)
  clear h
  go_enter Try.func38, Try.ntmps38
  go_wp2_with fail
  refine HC.out.mono ?_
  rintro e w1 ⟨z, rfl, hL⟩
  have HL := hid hL
  clear hL
  go_wp2_with fail
  go_ret
  exact ⟨z, rfl, HL.out⟩
set_option maxRecDepth 20000 in
set_option maxHeartbeats 4000000 in
theorem drawWordOfRank_any (v : Value) (bs : List Int) (w : World) (h : BytesR w v bs) :
    Calls Try.prog 57 #[v] w fun e w' => ∃ a : Int, e = .returned (.int .i64 a) ∧ (-1 ≤ a ∧ a ≤ 4611686018427387904) ∧ Later w w' := by
  have HC := hid (fun ty => Cur.newG w v bs h ty)
  obtain ⟨a, cap, rfl, _⟩ := id h
  clear h
  go_enter Try.func57, Try.ntmps57
  go_wp2_with fail
  refine (curOneG_any w _ w.heap.size _ bs 0 6 (by omega) (by omega) (HC.out _)).mono ?_
  rintro e w1 ⟨b, rfl, hC, _⟩
  have HC1 := hid hC
  clear hC
  cases b
  · go_wp2_with fail
    refine (curPick_any w w1 w.heap.size _ bs _ 100000 (by omega) (by omega) HC1.out).mono ?_
    rintro e w2 ⟨q, rfl, q0, q1, hC, _⟩
    have HL4 := hid hC.later
    have q2 : q ≤ 99999 := by simpa using q1
    clear hC q1
    go_wp2_with fail
    go_ret
    exact ⟨q, rfl, by omega, HL4.out⟩
  · go_wp2_with fail
    refine (curLitG_any w w1 w.heap.size _ bs _ [-1, 0, 1, 581130732, 581130733, 4611686018427387904] (by omega) (by simp) (by simp) HC1.out).mono ?_
    rintro e w4 ⟨z, rfl, hz, hC, _⟩
    have HL4 := hid hC.later
    have z2 : -1 ≤ z ∧ z ≤ 4611686018427387904 := by simp at hz; omega
    clear hC hz
    go_wp2_with fail
    go_ret
    exact ⟨z, rfl, z2, HL4.out⟩


theorem berg_bd {p q k : Int} (hp : Pair p q) (k0 : 0 ≤ k) (k2 : k ≤ 2) : -1000000 ≤ (bergC p q k).1 ∧ (bergC p q k).1 ≤ 1000000 ∧ -1000000 ≤ (bergC p q k).2 ∧ (bergC p q k).2 ≤ 1000000 := by
  have h1 := hp.h1
  have h2 := hp.h2
  have h7 := hp.h7
  have : k = 0 ∨ k = 1 ∨ k = 2 := by omega
  rcases this with rfl | rfl | rfl
  · show -1000000 ≤ 2 * p - q ∧ 2 * p - q ≤ 1000000 ∧ -1000000 ≤ p ∧ p ≤ 1000000
    omega
  · show -1000000 ≤ 2 * p + q ∧ 2 * p + q ≤ 1000000 ∧ -1000000 ≤ p ∧ p ≤ 1000000
    omega
  · show -1000000 ≤ p + 2 * q ∧ p + 2 * q ≤ 1000000 ∧ -1000000 ≤ q ∧ q ≤ 1000000
    omega
/-- a cursor and a list of one's own of some numbers behind it -/
structure TSt (base : World) (B : Nat) (v : Value) (bs : List Int) (m g c : Nat) (zs : List Int) (w : World) : Prop where
  cur : Cur base w B v bs m
  own : OwnInts (B + 1) w.heap.size w (.slice (some ⟨g, 0, none⟩) zs.length c) zs
theorem TSt.later {base w w' : World} {B : Nat} {v : Value} {bs : List Int} {m g c : Nat} {zs : List Int} (h : TSt base B v bs m g c zs w) (k : Later w w') : TSt base B v bs m g c zs w' :=
  ⟨h.cur.keep k, (h.own.later k).wide (Nat.le_refl _) k.size⟩
theorem TSt.cell {base w : World} {B : Nat} {v : Value} {bs : List Int} {m g c : Nat} {zs : List Int} (h : TSt base B v bs m g c zs w) {i : Nat} (hi : i < zs.length) : w.cell? ⟨g, i, none⟩ = some (.int .i64 (zs.getD i 0)) := by
  have := h.own.1.cellAt i (by omega)
  rw [this]
  simp [hi]
theorem TSt.frozen {base w : World} {B : Nat} {v : Value} {bs : List Int} {m g c : Nat} {zs : List Int} (h : TSt base B v bs m g c zs w) (i : Nat) : w.frozen? ⟨g, i, none⟩ = false := h.own.1.frozenAt i
def LitAt (B D : Nat) (zs : List Int) (w : World) : Prop := D ≠ B ∧ D < w.heap.size ∧ ∀ i, i < zs.length → w.cell? ⟨D, i, none⟩ = some (.int .i64 (zs.getD i 0))
theorem LitAt.grown {B D : Nat} {zs : List Int} {w w' : World} (h : LitAt B D zs w) (k : w.grownBy w' (some B)) : LitAt B D zs w' :=
  ⟨h.1, Nat.lt_of_lt_of_le h.2.1 k.size, fun i hi => cell_keep (h.2.2 i hi) (k.block D h.2.1 (fun e => h.1 (by injection e)))⟩
theorem LitAt.new {B : Nat} {w : World} {zs : List Int} (hB : B < w.heap.size) : LitAt B w.heap.size zs (w.alloc (.cells (zs.map (Value.int .i64)).toArray 3)) :=
  ⟨by omega, by simp, lit_cellsG w zs⟩
theorem pickTSt {base w : World} {B : Nat} {v : Value} {bs : List Int} {m g c : Nat} {zs : List Int} (hm : m ≤ 900000000) (n : Nat) (hn : 1 ≤ n ∧ n ≤ 1000) (h : TSt base B v bs m g c zs w) :
    Calls Try.prog 60 #[.pointer (some ⟨B, 0, none⟩), .int .i64 n] w fun e w' => ∃ i : Nat, e = .returned (.int .i64 i) ∧ i < n ∧ TSt base B v bs (m + 2) g c zs w' ∧ w.grownBy w' (some B) := by
  refine (curPick_any base w B v bs m n hm (by omega) h.cur).mono ?_
  rintro e w' ⟨x, rfl, x0, x1, hC, hG⟩
  obtain ⟨i, rfl⟩ : ∃ i : Nat, x = i := ⟨x.toNat, by omega⟩
  exact ⟨i, rfl, by split at x1 <;> omega, ⟨hC, h.own.keepG (Nat.lt_succ_self B) hG⟩, hG⟩
theorem amongTSt {base w : World} {B D : Nat} {v : Value} {bs : List Int} {m g c : Nat} {zs ys : List Int} (hm : m ≤ 900000000) (hy : 0 < ys.length ∧ ys.length ≤ 1000) (h : TSt base B v bs m g c zs w) (hD : LitAt B D ys w) :
    Calls Try.prog 61 #[.pointer (some ⟨B, 0, none⟩), .slice (some ⟨D, 0, none⟩) ys.length ys.length] w fun e w' => ∃ x : Int, e = .returned (.int .i64 x) ∧ x ∈ ys ∧ TSt base B v bs (m + 2) g c zs w' ∧ w.grownBy w' (some B) := by
  refine (curAmong_any base w B v bs m D _ ys hm hy.1 hy.2 hD.1 h.cur hD.2.2).mono ?_
  rintro e w' ⟨x, rfl, hx, hC, hG⟩
  exact ⟨x, rfl, hx, ⟨hC, h.own.keepG (Nat.lt_succ_self B) hG⟩, hG⟩
set_option maxRecDepth 20000 in
set_option maxHeartbeats 8000000 in
theorem curTriple_any (base w : World) (B : Nat) (v : Value) (bs : List Int) (m : Nat) (hm : m ≤ 1000) (h : Cur base w B v bs m) :
    Calls Try.prog 75 #[.pointer (some ⟨B, 0, none⟩)] w fun e w' => CurListG base B v bs (m + 100) e w' := by
  have H := hid h
  have HM := hid hm
  clear h
  go_enter Try.func75, Try.ntmps75
  go_wp2_with fail
  refine (curPick_any base w B v bs m 9 (by have := HM.out; omega) (by omega) H.out).mono ?_
  rintro e w1 ⟨n, rfl, n0, n1, hC, hG⟩
  have HC1 := hid hC
  have n2 : n ≤ 8 := by simpa using n1
  clear hC hG n1 hm
  go_wp2_with fail
  go_loopw [3, 4, 5] (fun sm sn sk wr => ∃ (p q : Int) (j : Nat), sm = .int .i64 p ∧ sn = .int .i64 q ∧ sk = .int .i64 j ∧ j ≤ 8 ∧ Pair p q ∧ Cur base wr B v bs (m + 40 - 2 * j)) (fun _ _ sk _ => (intOf sk).toNat)
  case atStart => exact ⟨2, 1, n.toNat, rfl, rfl, by rw [Int.toNat_of_nonneg n0], by omega, pair21, HC1.out.mono (by omega)⟩
  case round =>
    obtain ⟨p, q, j, rfl, rfl, rfl, hj, hp, hC⟩ := hrel
    have HP := hid hp
    have HC := hid hC
    have hp1 := hp.h1
    have hp2 := hp.h2
    have hp7 := hp.h7
    clear hp hC
    cases j with
    | succ j =>
      have HJ := hid hj
      have hjw := wrapQ (q := (j : Int)) (by omega)
      clear hj
      go_wp2_with fail
      refine (curPick_any base wr B v bs _ 3 (by have := HM.out; omega) (by omega) HC.out).mono ?_
      rintro e w2 ⟨k, rfl, k0, k1, hC, _⟩
      have k2 : k ≤ 2 := by simpa using k1
      have HC2 := hid hC
      obtain ⟨d1, d2, d3, d4⟩ := berg_bd HP.out k0 k2
      clear hC k1
      have HB := hid (riBerg_any p q k w2 (by omega) (by omega))
      obtain ⟨a, ha⟩ : ∃ a, (bergC p q k).1 = a := ⟨_, rfl⟩
      obtain ⟨b, hb⟩ : ∃ a, (bergC p q k).2 = a := ⟨_, rfl⟩
      rw [ha, hb] at HB
      clear d1 d2 d3 d4 ha hb
      go_wp2_with fail
      refine HB.out.mono ?_
      rintro e w3 ⟨rfl, rfl⟩
      have HQ := hid (riPair_any a b w2)
      obtain ⟨t, ht⟩ : ∃ t, pairB a b = t := ⟨_, rfl⟩
      have HT := hid ht
      rw [ht] at HQ
      clear ht
      go_wp2_with fail
      refine HQ.out.mono ?_
      rintro e w3 ⟨rfl, rfl⟩
      cases t
      · go_wp2_with fail
        go_roundw
        case rel => exact ⟨p, q, j, rfl, rfl, by go_num, by have := HJ.out; omega, HP.out, HC2.out.mono (by have := HJ.out; omega)⟩
        case measure => simp [intOf]
      · go_wp2_with fail
        go_roundw
        case rel => exact ⟨a, b, j, rfl, rfl, by go_num, by have := HJ.out; omega, pairB_iff.1 HT.out, HC2.out.mono (by have := HJ.out; omega)⟩
        case measure => simp [intOf]
    | zero =>
      have HC0 := hid (HC.out.mono (show m + 40 - 2 * 0 ≤ m + 40 by omega))
      clear HC
      go_wp2_with fail
      refine (curOneG_any base wr B v bs _ 6 (by have := HM.out; omega) (by omega) HC0.out).mono ?_
      rintro e w5 ⟨b, rfl, hC, _⟩
      have HC5 := hid hC
      clear hC
      go_upto_if 29 with fail
      go_cut [3, 4] (fun sm sn wx => ∃ p q : Int, sm = .int .i64 p ∧ sn = .int .i64 q ∧ Cur base wx B v bs (m + 50))
      case first =>
        cases b
        · go_wp2_with fail
          go_meet
          case rel => exact ⟨p, q, rfl, rfl, HC5.out.mono (by omega)⟩
        · go_wp2_with fail
          refine (curPick_any base w5 B v bs _ 120 (by have := HM.out; omega) (by omega) HC5.out).mono ?_
          rintro e w6 ⟨x, rfl, x0, x1, hC, _⟩
          have x2 : x ≤ 119 := by simpa using x1
          have HC6 := hid hC
          obtain ⟨X, hX⟩ : ∃ X, 2 + x = X := ⟨_, rfl⟩
          have hX1 : 2 ≤ X ∧ X ≤ 121 := by omega
          have hXw := wrapQ (q := X) (by omega)
          have hXw1 := wrapQ (q := X - 1) (by omega)
          clear hC x1
          go_wp2_with fail
          refine (curPick_any base w6 B v bs _ (X - 1) (by have := HM.out; omega) (by omega) HC6.out).mono ?_
          rintro e w7 ⟨y, rfl, y0, y1, hC, _⟩
          have HC7 := hid hC
          have y2 : y ≤ 121 := by split at y1 <;> omega
          obtain ⟨Y, hY⟩ : ∃ X, 1 + y = X := ⟨_, rfl⟩
          have hYw := wrapQ (q := Y) (by omega)
          clear hC y1 hX
          go_wp2_with fail
          go_meet
          case rel => exact ⟨X, Y, rfl, rfl, HC7.out.mono (by omega)⟩
      case rest =>
      obtain ⟨p, q, rfl, rfl, hC⟩ := hcut
      have HC := hid hC
      have HBc := hid hC.ltG
      clear hC HC5 HC0 HP hp1 hp2 hp7
      have HQ := hid (riPair_any p q wc)
      obtain ⟨t, ht⟩ : ∃ t, pairB p q = t := ⟨_, rfl⟩
      have HT := hid ht
      rw [ht] at HQ
      clear ht
      go_wp2_with fail
      refine HQ.out.mono ?_
      rintro e w3 ⟨rfl, rfl⟩
      cases t
      · go_wp2_with fail
        refine (curPick_any base wc B v bs _ 30 (by have := HM.out; omega) (by omega) HC.out).mono ?_
        rintro e w6 ⟨x, rfl, _, _, hC, _⟩
        have HC6 := hid hC
        clear hC
        go_wp2_with fail
        refine (curPick_any base w6 B v bs _ 30 (by have := HM.out; omega) (by omega) HC6.out).mono ?_
        rintro e w7 ⟨y, rfl, _, _, hC, _⟩
        have HC7 := hid hC
        clear hC
        go_wp2_with fail
        refine (curPick_any base w7 B v bs _ 50 (by have := HM.out; omega) (by omega) HC7.out).mono ?_
        rintro e w8 ⟨z, rfl, _, _, hC, _⟩
        have HC8 := hid hC
        have HB8 := hid hC.ltG
        clear hC
        go_wp2_with fail
        go_ret
        exact ⟨_, [x - 1, y, z], rfl, ownInts_litG w8 (B + 1) HB8.out [x - 1, y, z] (by simp), by simp, (HC8.out.allocG _).mono (by omega)⟩
      · have HO := hid (riOf_any p q (pairB_iff.1 HT.out) wc)
        go_wp2_with fail
        refine HO.out.mono ?_
        rintro e w6 ⟨g, rfl, ho, hL6⟩
        have HO6 := hid (intsMadeG ho HBc.out)
        have HC6 := hid (HC.out.keep hL6)
        clear ho hL6 HO
        obtain ⟨Z, hZ⟩ : ∃ Z, sidesL p q = Z := ⟨_, rfl⟩
        have hZ3 : Z.length = 3 := by rw [← hZ]; rfl
        rw [hZ] at HO6
        clear hZ
        obtain ⟨Z0, Z1, Z2, rfl⟩ : ∃ a b c, Z = [a, b, c] := by
          match Z, hZ3 with
          | [a, b, c], _ => exact ⟨a, b, c, rfl⟩
        clear hZ3
        obtain ⟨ga, gc, rfl, hgc⟩ := HO6.out.shape
        simp only [List.length_cons, List.length_nil, Nat.zero_add, Nat.reduceAdd] at HO6 hgc ⊢
        go_wp2_with fail
        refine (curPick_any base w6 B v bs _ 16 (by have := HM.out; omega) (by omega) HC6.out).mono ?_
        rintro e w7 ⟨c, rfl, c0, c1, hC, hG⟩
        have HC7 := hid hC
        have HO7 := hid (HO6.out.keepG (Nat.lt_succ_self B) hG)
        clear hC hG HO6 HC6
        obtain ⟨ga0, gc0, e0, _, _, _, hsh⟩ := ownsRow_shape HO7.out.1
        obtain ⟨g, rfl, _⟩ := hsh 0 (by simp)
        simp only [Value.slice.injEq] at e0
        obtain ⟨rfl, _, rfl⟩ := e0
        clear hsh
        have HT7 := hid (show TSt base B v bs (m + 70) g gc [Z0, Z1, Z2] w7 from ⟨HC7.out.mono (by omega), HO7.out⟩)
        have HB7 := hid HC7.out.ltG
        clear HC7 HO7 hgc c1 HQ HT HC
        by_cases e0 : c = 0
        · subst e0
          clear c0
          have LM : Hid (m + 80 ≤ 900000000) := hid (by have := HM.out; omega)
          go_wp2_with fail
          go_region_with (first
            | (go_at_call 60
               refine (pickTSt (g := g) (c := gc) (zs := [Z0, Z1, Z2]) (m := m + 70) (by have := LM.out; omega) 3 (by omega) (by first | exact HT7.out.later (Later.drew _) | exact HT7.out.later ((Later.drew _).trans (Later.alloc _ _)) | exact HT7.out.later ((Later.alloc _ _).trans (Later.drew _)))).mono ?_
               rintro e w8 ⟨i, rfl, hi, hT8, hG8⟩
               have k8 := hT8.cell (i := i) (by simpa using hi)
               have k8a := (hT8.later (Later.alloc w8 (.cells #[.int .i64 (-1), .int .i64 1, .int .i64 1000000000] 3))).cell (i := i) (by simpa using hi)
               have hiI : (i : Int) < 3 := by omega
               have hi0 : (0 : Int) ≤ (i : Int) := by omega
               have HT8 := hid hT8
               have HI8 := hid hi
               have HG8 := hid hG8
               clear hT8 hG8 hi)
            | (go_at_call 61
               refine (amongTSt (g := g) (c := gc) (zs := [Z0, Z1, Z2]) (ys := [-1, 1, 1000000000]) (m := m + 70 + 2) (by have := LM.out; omega) (by simp) (by first | exact HT8.out | exact HT8.out.later (Later.alloc _ _)) (by first | exact (LitAt.new (w := w7.drew) HB7.out).grown HG8.out | exact (LitAt.new (w := w7) HB7.out).grown HG8.out | exact LitAt.new HT8.out.cur.ltG)).mono ?_
               rintro e w9 ⟨x, rfl, _, hT9, _⟩
               have k9 := hT9.cell (i := i) (by have := HI8.out; simpa using this)
               have f9 := hT9.frozen i
               have HT9 := hid hT9
               clear hT9))
          all_goals
            have HS := hid (fun y => storeG (k := i) (zs := [Z0, Z1, Z2]) HT9.out.cur HT9.out.own (Nat.lt_succ_self B) y)
            go_wp2_with fail
            go_ret
            exact ⟨_, [Z0, Z1, Z2].set i _, rfl, (HS.out _).2, by simp, (HS.out _).1.mono (by omega)⟩
        · have e0' : (c == 0) = false := by simp [e0]
          have kc0 : w7.cell? ⟨g, 0, none⟩ = some (.int .i64 Z0) := HT7.out.cell (i := 0) (by simp)
          have kc1 : w7.cell? ⟨g, 1, none⟩ = some (.int .i64 Z1) := HT7.out.cell (i := 1) (by simp)
          have kc2 : w7.cell? ⟨g, 2, none⟩ = some (.int .i64 Z2) := HT7.out.cell (i := 2) (by simp)
          have KA := hid (fun (o : Obj) => HT7.out.later ((Later.alloc w7 o).trans (Later.drew _)))
          by_cases e1 : c = 1
          · subst e1
            clear c0 e0
            go_wp2_with fail
            go_region_held3 (fun w' => w'.cell? ⟨g, 0, none⟩ = some (.int .i64 Z0) ∧ w'.cell? ⟨g, 1, none⟩ = some (.int .i64 Z1) ∧ w'.cell? ⟨g, 2, none⟩ = some (.int .i64 Z2)) (first | exact ⟨kc0, kc1, kc2⟩ | exact ⟨(KA.out _).cell (i := 0) (by simp), (KA.out _).cell (i := 1) (by simp), (KA.out _).cell (i := 2) (by simp)⟩) (fail)
            go_wp2_with fail
            go_ret
            refine ⟨_, [Z1, Z0, Z2], rfl, ?_, by simp, ?_⟩
            · first | exact (ownInts_litG w7 (B + 1) HB7.out [Z1, Z0, Z2] (by simp)).later (Later.drew _) | exact ownInts_litG w7.drew (B + 1) HB7.out [Z1, Z0, Z2] (by simp)
            · first | exact ((KA.out _).cur).mono (by omega) | exact (((HT7.out.later (Later.drew w7)).later (Later.alloc _ _)).cur).mono (by omega)
          · have e1' : (c == 1) = false := by simp [e1]
            by_cases e2 : c = 2
            · subst e2
              clear c0 e0
              obtain ⟨Y0, hY0⟩ : ∃ Y, IntKind.i64.wrap (3 * Z0) = Y := ⟨_, rfl⟩
              obtain ⟨Y1, hY1⟩ : ∃ Y, IntKind.i64.wrap (3 * Z1) = Y := ⟨_, rfl⟩
              obtain ⟨Y2, hY2⟩ : ∃ Y, IntKind.i64.wrap (3 * Z2) = Y := ⟨_, rfl⟩
              go_wp2_with fail
              go_region_held3 (fun w' => w'.cell? ⟨g, 0, none⟩ = some (.int .i64 Z0) ∧ w'.cell? ⟨g, 1, none⟩ = some (.int .i64 Z1) ∧ w'.cell? ⟨g, 2, none⟩ = some (.int .i64 Z2)) (first | exact ⟨kc0, kc1, kc2⟩ | exact ⟨(KA.out _).cell (i := 0) (by simp), (KA.out _).cell (i := 1) (by simp), (KA.out _).cell (i := 2) (by simp)⟩) (fail)
              go_wp2_with fail
              go_ret
              refine ⟨_, [Y0, Y1, Y2], rfl, ?_, by simp, ?_⟩
              · first | exact (ownInts_litG w7 (B + 1) HB7.out [Y0, Y1, Y2] (by simp)).later (Later.drew _) | exact ownInts_litG w7.drew (B + 1) HB7.out [Y0, Y1, Y2] (by simp)
              · first | exact ((KA.out _).cur).mono (by omega) | exact (((HT7.out.later (Later.drew w7)).later (Later.alloc _ _)).cur).mono (by omega)
            · have e2' : (c == 2) = false := by simp [e2]
              by_cases e3 : c = 3
              · subst e3
                clear c0 e0 kc0 kc1 kc2
                go_wp2_with (at_builtin; refine wpList_pushG (by rfl) _ _ (by rfl) (B + 1) w7 _ (.slice (some ⟨g, 0, none⟩) 3 gc) [Z0, Z1, Z2] 1 (by rfl) HB7.out HT7.out.own (by simp) (by rfl) rfl ?_)
                intro g2 cc w8 hO8 hG8 _
                have HO8 := hid hO8
                have HC8 := hid (HT7.out.cur.besideG (Nat.lt_succ_self B) HT7.out.own.ownG hG8)
                clear hO8 hG8
                go_wp2_with fail
                go_ret
                exact ⟨_, [Z0, Z1, Z2, 1], rfl, HO8.out, by simp, HC8.out.mono (by omega)⟩
              · have e3' : (c == 3) = false := by simp [e3]
                go_wp2_with fail
                go_ret
                exact ⟨_, [Z0, Z1, Z2], rfl, HT7.out.own, by simp, HT7.out.cur.mono (by omega)⟩
set_option maxRecDepth 20000 in
set_option maxHeartbeats 4000000 in
theorem drawIsRight_any (v : Value) (bs : List Int) (w : World) (h : BytesR w v bs) :
    Calls Try.prog 66 #[v] w fun e w' => OneListG w e w' := by
  have HC := hid (fun ty => Cur.newG w v bs h ty)
  obtain ⟨a, cap, rfl, _⟩ := id h
  clear h
  go_enter Try.func66, Try.ntmps66
  go_wp2_with fail
  refine (curTriple_any w _ w.heap.size _ bs 0 (by omega) (HC.out _)).mono ?_
  rintro e w1 ⟨u, zs, rfl, ho, hl, hC⟩
  have HO := hid (show OwnInts w.heap.size w1.heap.size w1 u zs from ho.wide (by omega) (Nat.le_refl _))
  have HL := hid hC.later
  clear ho hC
  go_wp2_with fail
  go_ret
  exact ⟨u, zs, rfl, HO.out, hl, HL.out⟩
theorem drawPairOfRight_any (v : Value) (bs : List Int) (w : World) (h : BytesR w v bs) :
    Calls Try.prog 15 #[v] w fun e w' => OneListG w e w' := by
  have HC := hid (drawIsRight_any v bs w h)
  clear h
  go_enter Try.func15, Try.ntmps15
  go_wp2_with fail
  refine HC.out.mono ?_
  rintro e w1 ⟨u, zs, rfl, ho, hl, hL⟩
  have HO := hid ho
  have HL := hid hL
  clear ho hL
  go_wp2_with fail
  go_ret
  exact ⟨u, zs, rfl, HO.out, hl, HL.out⟩
theorem drawBergParent_any (v : Value) (bs : List Int) (w : World) (h : BytesR w v bs) :
    Calls Try.prog 33 #[v] w fun e w' => OneListG w e w' := by
  have HC := hid (drawIsRight_any v bs w h)
  clear h
  go_enter Try.func33, Try.ntmps33
  go_wp2_with fail
  refine HC.out.mono ?_
  rintro e w1 ⟨u, zs, rfl, ho, hl, hL⟩
  have HO := hid ho
  have HL := hid hL
  clear ho hL
  go_wp2_with fail
  go_ret
  exact ⟨u, zs, rfl, HO.out, hl, HL.out⟩
theorem drawPriceParent_any (v : Value) (bs : List Int) (w : World) (h : BytesR w v bs) :
    Calls Try.prog 43 #[v] w fun e w' => OneListG w e w' := by
  have HC := hid (drawIsRight_any v bs w h)
  clear h
  go_enter Try.func43, Try.ntmps43
  go_wp2_with fail
  refine HC.out.mono ?_
  rintro e w1 ⟨u, zs, rfl, ho, hl, hL⟩
  have HO := hid ho
  have HL := hid hL
  clear ho hL
  go_wp2_with fail
  go_ret
  exact ⟨u, zs, rfl, HO.out, hl, HL.out⟩
theorem drawPriceWord_any (v : Value) (bs : List Int) (w : World) (h : BytesR w v bs) :
    Calls Try.prog 51 #[v] w fun e w' => OneListG w e w' := by
  have HC := hid (drawIsRight_any v bs w h)
  clear h
  go_enter Try.func51, Try.ntmps51
  go_wp2_with fail
  refine HC.out.mono ?_
  rintro e w1 ⟨u, zs, rfl, ho, hl, hL⟩
  have HO := hid ho
  have HL := hid hL
  clear ho hL
  go_wp2_with fail
  go_ret
  exact ⟨u, zs, rfl, HO.out, hl, HL.out⟩
set_option maxRecDepth 20000 in
set_option maxHeartbeats 4000000 in
theorem drawBergChild_any (v : Value) (bs : List Int) (w : World) (h : BytesR w v bs) :
    Calls Try.prog 22 #[v] w fun e w' => ListNumG w e w' := by
  have HC := hid (fun ty => Cur.newG w v bs h ty)
  obtain ⟨a, cap, rfl, _⟩ := id h
  clear h
  go_enter Try.func22, Try.ntmps22
  go_wp2_with fail
  refine (curTriple_any w _ w.heap.size _ bs 0 (by omega) (HC.out _)).mono ?_
  rintro e w1 ⟨u, zs, rfl, ho, hl, hC⟩
  have HO := hid ho
  have HC1 := hid hC
  clear ho hC
  go_wp2_with fail
  refine (curPick_any w w1 w.heap.size _ bs _ 5 (by omega) (by omega) HC1.out).mono ?_
  rintro e w2 ⟨x, rfl, x0, x1, hC, hG⟩
  have HC2 := hid hC
  have HO2 := hid (HO.out.keepG (Nat.lt_succ_self _) hG)
  have x2 : x ≤ 4 := by simpa using x1
  clear hC hG x1
  go_wp2_with fail
  refine (curPick_any w w2 w.heap.size _ bs _ 9 (by omega) (by omega) HC2.out).mono ?_
  rintro e w3 ⟨y, rfl, y0, y1, hC, hG⟩
  have HO3 := hid ((HO2.out.keepG (Nat.lt_succ_self _) hG).wide (show w.heap.size ≤ w.heap.size + 1 by omega) (Nat.le_refl _))
  have HL3 := hid hC.later
  have y2 : y ≤ 8 := by simpa using y1
  obtain ⟨d, hd⟩ : ∃ d, y.tdiv 8 = d := ⟨_, rfl⟩
  have hd2 : y / 8 = d := by rw [← hd, Int.tdiv_eq_ediv_of_nonneg y0]
  have hd0 : 0 ≤ d ∧ d ≤ 1 := by omega
  have hdw := wrapQ (q := d) (by omega)
  clear hC hG y1
  go_wp2_with fail
  go_ret2
  exact ⟨u, zs, _, rfl, HO3.out, hl, HL3.out⟩
theorem drawPriceChild_any (v : Value) (bs : List Int) (w : World) (h : BytesR w v bs) :
    Calls Try.prog 35 #[v] w fun e w' => ListNumG w e w' := by
  have HC := hid (drawBergChild_any v bs w h)
  clear h
  go_enter Try.func35, Try.ntmps35
  go_wp2_with fail
  refine HC.out.mono ?_
  rintro e w1 ⟨u, zs, k, rfl, ho, hl, hL⟩
  have HO := hid ho
  have HL := hid hL
  clear ho hL
  go_wp2_with fail
  go_ret2
  exact ⟨u, zs, k, rfl, HO.out, hl, HL.out⟩
end Go.Proofs.Ytdahhcigphhfdac
