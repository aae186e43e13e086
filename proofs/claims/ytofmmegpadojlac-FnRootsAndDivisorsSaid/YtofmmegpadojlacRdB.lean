/- What the model draws for roots and divisors: a number; a list of numbers. -/
import Derived.Test.YtofmmegpadojlacCuG
namespace Go.Proofs.Ytofmmegpadojlac
open Go.RowKit

set_option maxRecDepth 20000 in
set_option maxHeartbeats 4000000 in
theorem drawRootOf_any (v : Value) (bs : List Int) (w : World) (h : BytesR w v bs) :
    Calls Try.prog 8 #[v] w fun e w' => OneNumG w e w' := by
  have HC := hid (fun ty => Cur.newG w v bs h ty)
  obtain ⟨a, cap, rfl, _⟩ := id h
  clear h
  go_enter Try.func8, Try.ntmps8
  go_wp2_with fail
  refine (curPick_any w _ w.heap.size _ bs 0 1000000000 (by omega) (by omega) (HC.out _)).mono ?_
  rintro e w1 ⟨k, rfl, k0, k1, hC, _⟩
  have HC1 := hid hC
  have k2 : k ≤ 999999999 := by simpa using k1
  clear hC k1
  obtain ⟨s0, s1⟩ : 0 ≤ k * k ∧ k * k ≤ 999999999 * 999999999 := ⟨Int.mul_nonneg k0 k0, Int.mul_le_mul k2 k2 k0 (by omega)⟩
  obtain ⟨s, hs⟩ : ∃ s, k * k = s := ⟨_, rfl⟩
  rw [hs] at s0 s1
  have hkw : IntKind.i64.wrap k = k := wrapQ (by omega)
  have hsw : IntKind.i64.wrap s = s := wrapQ (by omega)
  have hsw1 : IntKind.i64.wrap (s - 1) = s - 1 := wrapQ (by omega)
  have hl := lit_cellsG w1 [0, 1, 2, 3, 4, 1000000000000000000, 1000000000000000001, 999999999999999999, -1, k, s, s - 1, 4611686018427387904]
  have HAM := hid (curAmong_any w _ w.heap.size _ bs _ w1.heap.size 13 [0, 1, 2, 3, 4, 1000000000000000000, 1000000000000000001, 999999999999999999, -1, k, s, s - 1, 4611686018427387904] (by omega) (by simp) (by simp) (by have := HC1.out.ltG; omega) (HC1.out.allocG (.cells (([0, 1, 2, 3, 4, 1000000000000000000, 1000000000000000001, 999999999999999999, -1, k, s, s - 1, 4611686018427387904] : List Int).map (Value.int .i64)).toArray 3)) hl)
  clear hl
  go_wp2_with fail
  refine HAM.out.mono ?_
  rintro e w5 ⟨z, rfl, _, hC, _⟩
  have HL := hid hC.later
  clear hC
  go_wp2_with fail
  go_ret
  exact ⟨z, rfl, HL.out⟩
set_option maxRecDepth 20000 in
set_option maxHeartbeats 4000000 in
theorem drawDivisorOf_any (v : Value) (bs : List Int) (w : World) (h : BytesR w v bs) :
    Calls Try.prog 11 #[v] w fun e w' => OneListG w e w' := by
  have HC := hid (fun ty => Cur.newG w v bs h ty)
  obtain ⟨a, cap, rfl, _⟩ := id h
  clear h
  go_enter Try.func11, Try.ntmps11
  go_wp2_with fail
  obtain ⟨V, hV⟩ : ∃ V, Value.slice a bs.length cap = V := ⟨_, rfl⟩
  rw [hV] at HC ⊢
  clear hV
  obtain ⟨W1, hW1⟩ : ∃ W1, w.alloc (.cells #[V, .int .i64 0, .int .u64 0] 63) = W1 := ⟨_, rfl⟩
  have HC1 := HC.out 63
  rw [hW1] at HC1 ⊢
  obtain ⟨B, hB⟩ : ∃ B, w.heap.size = B := ⟨_, rfl⟩
  have hs1 : W1.heap.size = B + 1 := by rw [← hW1, ← hB]; simp
  rw [hB] at HC1 ⊢
  have HB0 := hid hB
  have HB := hid HC1.ltG
  clear hW1 hB HC
  have HAM := curAmong_any w (W1.alloc (.cells (([1, 2, 6, 30] : List Int).map (Value.int .i64)).toArray 3)) B V bs 0 W1.heap.size 4 [1, 2, 6, 30] (by omega) (by simp) (by simp) (by omega) (HC1.allocG _) (lit_cellsG W1 [1, 2, 6, 30])
  rw [hs1] at HAM
  refine HAM.mono ?_
  clear HAM
  rintro e w2 ⟨d, rfl, hd, hC2, hG2⟩
  have HC2 := hid hC2
  have d0 : 1 ≤ d ∧ d ≤ 30 := by simp at hd; omega
  have HL2 := hid hC2.later
  clear hC2 hG2 hd HC1 hs1
  go_wp2_with fail
  refine (curLitG_any w w2 B V bs _ [0, 1, 2, 3, 5, 40, 41] (by omega) (by simp) (by simp) HC2.out).mono ?_
  rintro e w3 ⟨n, rfl, hn, hC3, hG3⟩
  have HC3 := hid hC3
  have n0 : 0 ≤ n ∧ n ≤ 41 := by simp at hn; omega
  have HB1 := hid (show B + 1 ≤ w3.heap.size from hC3.ltG)
  clear hC3 hG3 hn
  go_wp2_with fail
  go_loopw [4, 6] (fun o k wr => ∃ (L : List Int) (j : Nat), k = .int .i64 j ∧ OwnInts (B + 1) wr.heap.size wr o L ∧ L.length + j ≤ 41 ∧ Cur w wr B V bs (10 + 2 * L.length)) (fun _ k _ => (intOf k).toNat)
  case atStart => exact ⟨[], n.toNat, by rw [Int.toNat_of_nonneg n0.1], ownInts_nilG _ _ _, by simp; omega, HC3.out.mono (by simp)⟩
  case round =>
    obtain ⟨L, j, rfl, hO, hl, hC⟩ := hrel
    obtain ⟨p1, c1, rfl, hcap⟩ := hO.shape
    have HO := hid hO
    have HC := hid hC
    have HBr := hid hC.ltG
    clear hO hC
    cases j with
    | succ j =>
      have hj0 : (0 : Int) < ((j + 1 : Nat) : Int) := by omega
      go_wp2_with fail
      refine (curPick_any w wr B V bs _ 60 (by omega) (by omega) HC.out).mono ?_
      rintro e w4 ⟨x, rfl, x0, x1, hC, hG⟩
      have HC4 := hid hC
      have HO4 := hid (show OwnInts (B + 1) w4.heap.size w4 (.slice p1 L.length c1) L from (HO.out.keep fun b h1 h2 => hG.block b h2 (fun e => by injection e with e; omega)).wide (Nat.le_refl _) hG.size)
      have HS4 := hid (show B + 1 ≤ w4.heap.size from hC.ltG)
      have x2 : x ≤ 59 := by simpa using x1
      have HLN := hid (show L.length ≤ 1000000 by omega)
      have hxw := wrapQ (q := x - 20) (by omega)
      have hP := mulBdG (x := d) (y := x - 20) (B := 30) (C := 60) (by omega) (by omega)
      obtain ⟨P, hPe⟩ : ∃ P, d * (x - 20) = P := ⟨_, rfl⟩
      rw [hPe] at hP
      have hPw := wrapQ (q := P) (by omega)
      clear hC hG x1
      go_wp2_with (at_builtin; refine wpList_pushG (by rfl) _ _ (by rfl) (B + 1) w4 _ (.slice p1 L.length c1) L P (by rfl) HS4.out HO4.out HLN.out (by rfl) rfl ?_)
      intro g c w5 hO5 hG5 _
      have HC5 := hid (HC4.out.besideG (Nat.lt_succ_self B) HO4.out.ownG hG5)
      have HO5 := hid hO5
      clear hO5 hG5
      go_wp2_with fail
      go_roundw
      case rel => exact ⟨L ++ [P], j, by go_num, by simpa using HO5.out, by simp; omega, by have h := HC5.out; exact h.mono (by simp; omega)⟩
      case measure => simp [intOf]
    | zero =>
      by_cases hlen : (0 : Int) < (L.length : Int)
      · go_wp2_with fail
        refine (curOneG_any w wr B V bs _ 12 (by omega) (by omega) HC.out).mono ?_
        rintro e w4 ⟨b, rfl, hC, hG⟩
        have HC4 := hid hC
        have HO4 := hid (HO.out.keepG (Nat.lt_succ_self B) hG)
        clear hC hG
        cases b
        · go_wp2_with fail
          go_ret
          exact ⟨_, L, rfl, HO4.out.wide (by have := HB0.out; omega) (Nat.le_refl _), by omega, HC4.out.later⟩
        · go_wp2_with fail
          refine (curLitG_any w w4 B V bs _ [1000000000, -1000000000, 1000000001, -9223372036854775808] (by omega) (by simp) (by simp) HC4.out).mono ?_
          rintro e w5 ⟨x, rfl, _, hC, hG⟩
          have HC5 := hid hC
          have HO5 := hid (HO4.out.keepG (Nat.lt_succ_self B) hG)
          clear hC hG
          obtain ⟨a1, cap1, e1, _, _, _, hsh⟩ := ownsRow_shape HO5.out.1
          obtain ⟨g, rfl, _⟩ := hsh 0 (by omega)
          simp only [Value.slice.injEq] at e1
          obtain ⟨rfl, e62, rfl⟩ := e1
          clear hsh e62
          have hc0 := HO5.out.1.cellAt 0 (by omega)
          have hf0 := HO5.out.1.frozenAt 0
          obtain ⟨y, hy⟩ : ∃ y, w5.cell? ⟨g, 0, none⟩ = some y := by
            rw [hc0]
            cases L with
            | nil => simp at hlen
            | cons q L => exact ⟨_, rfl⟩
          have HST := hid (storeG (k := 0) HC5.out HO5.out (Nat.lt_succ_self B) x)
          clear hc0
          go_wp2_with fail
          go_ret
          exact ⟨_, L.set 0 x, rfl, HST.out.2.wide (by have := HB0.out; omega) (Nat.le_refl _), by simp; omega, HST.out.1.later⟩
      · go_wp2_with fail
        go_ret
        exact ⟨_, L, rfl, HO.out.wide (by have := HB0.out; omega) (Nat.le_refl _), by omega, HC.out.later⟩
end Go.Proofs.Ytofmmegpadojlac
