/- What the model draws for whole quotients: numbers, whichever they are. -/
import Derived.Test.YtdngocjhblpkkacCuB
import Derived.Test.YtdngocjhblpkkacJuM
namespace Go.Proofs.Ytdngocjhblpkkac
open Go.RowKit

/-- two numbers, whichever they are -/
def TwoNums (base : World) (e : Ending) (w' : World) : Prop := ∃ a b : Int, e = .returned (.tuple #[.int .i64 a, .int .i64 b]) ∧ Later base w'
theorem Cur.new (w : World) (v : Value) (bs : List Int) (h : BytesR w v bs) (ty : TypeId) : Cur w (w.alloc (.cells #[v, .int .i64 0, .int .u64 0] ty)) w.heap.size v bs 0 :=
  ⟨Later.alloc w _, Nat.le_refl _, h, by simp [go_sem], ⟨0, 0, by simp [go_sem], Nat.le_refl _, by simp [go_sem], by omega, by omega⟩, by simp [go_sem], by simp [go_sem]⟩
theorem Cur.lt {base w : World} {B : Nat} {v : Value} {bs : List Int} {m : Nat} (h : Cur base w B v bs m) : B < w.heap.size := World.block_lt_of_cell? w ⟨B, 0, none⟩ h.code
theorem Cur.alloc {base w : World} {B : Nat} {v : Value} {bs : List Int} {m : Nat} (h : Cur base w B v bs m) (o : Obj) : Cur base (w.alloc o) B v bs m := h.keep (Later.alloc w o)
theorem lit_cells (w : World) (zs : List Int) : ∀ i, i < zs.length → (w.alloc (.cells (zs.map (Value.int .i64)).toArray 3)).cell? ⟨w.heap.size, i, none⟩ = some (.int .i64 (zs.getD i 0)) := by
  intro i hi
  simp [go_sem, hi]
set_option maxRecDepth 20000 in
set_option maxHeartbeats 8000000 in
theorem curQuot_any (base w : World) (B : Nat) (v : Value) (bs : List Int) (h : Cur base w B v bs 0) :
    Calls Try.prog 28 #[.pointer (some ⟨B, 0, none⟩)] w fun e w' => TwoNums base e w' := by
  have H := hid h
  clear h
  go_enter Try.func28, Try.ntmps28
  go_wp2_with fail
  refine (curPick_any base w B v bs 0 7 (by omega) (by omega) H.out).mono ?_
  rintro e w1 ⟨p, rfl, p0, p1, hC, _⟩
  have HC := hid hC
  clear hC
  go_wp2_with fail
  refine (curPick_any base w1 B v bs _ 6 (by omega) (by omega) HC.out).mono ?_
  rintro e w2 ⟨n, rfl, n0, n1, hC, _⟩
  have HC2 := hid hC
  clear hC
  obtain ⟨q, hq⟩ : ∃ q, 1 + p = q := ⟨_, rfl⟩
  have q1 : 1 ≤ q := by omega
  have q2 : q ≤ 7 := by omega
  obtain ⟨s1, s2⟩ : 0 ≤ q * q ∧ q * q ≤ 49 := ⟨Int.mul_nonneg (by omega) (by omega), by have := Int.mul_le_mul q2 q2 (by omega) (by omega); omega⟩
  clear p0 p1
  go_wp2_with fail
  go_loopw [5, 6, 7] (fun s5 s6 s7 wr => ∃ (x y : Int) (j : Nat), s5 = .int .i64 x ∧ s6 = .int .i64 y ∧ s7 = .int .i64 j ∧ 1 ≤ x ∧ x ≤ 1000000 ∧ 0 ≤ y ∧ y ≤ 1000000 ∧ j ≤ 6 ∧ wr = w2) (fun _ _ s7 _ => (intOf s7).toNat)
  case atStart => exact ⟨q, 0, n.toNat, rfl, rfl, by rw [Int.toNat_of_nonneg n0], q1, by omega, by omega, by omega, by simp at n1; omega, rfl⟩
  case round =>
    obtain ⟨x, y, j, rfl, rfl, rfl, x1, x2, y1, y2, hj, rfl⟩ := hrel
    obtain ⟨t1, t2⟩ : 0 ≤ q * q * x ∧ q * q * x ≤ 49 * 1000000 := ⟨Int.mul_nonneg s1 (by omega), Int.mul_le_mul s2 x2 (by omega) (by omega)⟩
    cases j with
    | zero =>
      go_wp2_with fail
      refine (curPick_any base wr B v bs _ 10 (by omega) (by omega) HC2.out).mono ?_
      rintro e w3 ⟨c, rfl, c0, c1, hC, _⟩
      have HC4 := hid hC
      have HL4 := hid hC.later
      have HLT := hid hC.lt
      clear hC c1
      by_cases e0 : c = 0
      · subst e0
        have hl := lit_cells w3 [-1, 0, 1, 1000000, 1000001, 4611686018427387904]
        have HAM := hid (curAmong_any base _ B v bs _ w3.heap.size 6 [-1, 0, 1, 1000000, 1000001, 4611686018427387904] (by omega) (by simp) (by simp) (by have := HLT.out; omega) (HC4.out.alloc (.cells (([-1, 0, 1, 1000000, 1000001, 4611686018427387904] : List Int).map (Value.int .i64)).toArray 3)) hl)
        clear hl
        go_wp2_with fail
        refine HAM.out.mono ?_
        rintro e w4 ⟨z, rfl, _, hC, _⟩
        have HL5 := hid hC.later
        clear hC
        go_wp2_with fail
        go_ret2
        exact ⟨z, y, rfl, HL5.out⟩
      · have e0' : (c == 0) = false := by simp [e0]
        by_cases e1 : c = 1
        · subst e1
          go_wp2_with fail
          refine (curPick_any base w3 B v bs _ 20 (by omega) (by omega) HC4.out).mono ?_
          rintro e w4 ⟨d, rfl, d0, d1, hC, _⟩
          have HL5 := hid hC.later
          have d2 : d ≤ 19 := by simpa using d1
          clear hC d1
          go_wp2_with fail
          go_ret2
          exact ⟨x, d - 1, rfl, HL5.out⟩
        · have e1' : (c == 1) = false := by simp [e1]
          by_cases e2 : c = 2
          · subst e2
            go_wp2_with fail
            go_ret2
            exact ⟨y, x, rfl, HL4.out⟩
          · have e2' : (c == 2) = false := by simp [e2]
            go_wp2_with fail
            go_ret2
            exact ⟨x, y, rfl, HL4.out⟩
    | succ j =>
      have hj0 : (0 : Int) < ((j + 1 : Nat) : Int) := by omega
      by_cases hz : x ≤ q * q * x - y ∧ q * q * x - y ≤ 1000000
      · have hw1 := within_yes hz.1 hz.2
        go_wp2_with (go_at_call 27; refine (l1In_any _ _ _ _).mono ?_; rintro e w3 ⟨rfl, rfl⟩)
        go_roundw
        case rel => exact ⟨q * q * x - y, x, j, rfl, rfl, by go_num, by omega, hz.2, by omega, x2, by omega, trivial⟩
        case measure => simp [intOf]
      · have hw1 := within_no hz
        go_wp2_with (go_at_call 27; refine (l1In_any _ _ _ _).mono ?_; rintro e w3 ⟨rfl, rfl⟩)
        go_roundw
        case rel => exact ⟨x, y, j, rfl, rfl, by go_num, x1, x2, y1, y2, by omega, trivial⟩
        case measure => simp [intOf]
set_option maxRecDepth 20000 in
theorem drawQuotient_any (v : Value) (bs : List Int) (w : World) (h : BytesR w v bs) :
    Calls Try.prog 14 #[v] w fun e w' => TwoNums w e w' := by
  have HC := hid (fun ty => Cur.new w v bs h ty)
  obtain ⟨a, cap, rfl, _⟩ := id h
  clear h
  go_enter Try.func14, Try.ntmps14
  go_wp2_with fail
  refine (curQuot_any w _ w.heap.size _ bs (HC.out _)).mono ?_
  rintro e w1 ⟨x, y, rfl, hL⟩
  have HL := hid hL
  clear hL
  go_wp2_with fail
  go_ret2
  exact ⟨x, y, rfl, HL.out⟩
theorem drawQuotientRun_any (v : Value) (bs : List Int) (w : World) (h : BytesR w v bs) :
    Calls Try.prog 5 #[v] w fun e w' => TwoNums w e w' := by
  have HC := hid (drawQuotient_any v bs w h)
  obtain ⟨a, cap, rfl, _⟩ := id h
  clear h
  go_enter Try.func5, Try.ntmps5
  go_wp2_with fail
  refine HC.out.mono ?_
  rintro e w1 ⟨x, y, rfl, hL⟩
  have HL := hid hL
  clear hL
  go_wp2_with fail
  go_ret2
  exact ⟨x, y, rfl, HL.out⟩
set_option maxRecDepth 20000 in
set_option maxHeartbeats 4000000 in
theorem drawQuotientPairs_any (v : Value) (bs : List Int) (w : World) (h : BytesR w v bs) :
    Calls Try.prog 11 #[v] w fun e w' => TwoNums w e w' := by
  have HC := hid (fun ty => Cur.new w v bs h ty)
  obtain ⟨a, cap, rfl, _⟩ := id h
  clear h
  go_enter Try.func11, Try.ntmps11
  go_wp2_with fail
  obtain ⟨V, hV⟩ : ∃ V, Value.slice a bs.length cap = V := ⟨_, rfl⟩
  rw [hV] at HC ⊢
  clear hV
  obtain ⟨W1, hW1⟩ : ∃ W1, w.alloc (.cells #[V, .int .i64 0, .int .u64 0] 43) = W1 := ⟨_, rfl⟩
  have HC1 := hid (HC.out 43)
  rw [hW1] at HC1 ⊢
  obtain ⟨B, hB⟩ : ∃ B, w.heap.size = B := ⟨_, rfl⟩
  rw [hB] at HC1 ⊢
  clear hW1 hB HC
  refine (curPick_any w W1 B V bs 0 12 (by omega) (by omega) HC1.out).mono ?_
  rintro e w2 ⟨p, rfl, p0, p1, hC, _⟩
  have HC2 := hid hC
  have p2 : p ≤ 11 := by simpa using p1
  clear hC p1
  go_wp2_with fail
  refine (curPick_any w w2 B V bs _ 9 (by omega) (by omega) HC2.out).mono ?_
  rintro e w3 ⟨r, rfl, r0, r1, hC, _⟩
  have HC3 := hid hC
  clear hC r1
  go_wp2_with fail
  refine (curPick_any w w3 B V bs _ 10 (by omega) (by omega) HC3.out).mono ?_
  rintro e w4 ⟨c, rfl, c0, c1, hC, _⟩
  have HC4 := hid hC
  have HL4 := hid hC.later
  have HLT := hid hC.lt
  clear hC c1
  by_cases e0 : c = 0
  · subst e0
    have hl := lit_cells w4 [-1, 0, 1, 100, 101]
    have HAM := hid (curAmong_any w _ B V bs _ w4.heap.size 5 [-1, 0, 1, 100, 101] (by omega) (by simp) (by simp) (by have := HLT.out; omega) (HC4.out.alloc (.cells (([-1, 0, 1, 100, 101] : List Int).map (Value.int .i64)).toArray 3)) hl)
    clear hl
    go_wp2_with fail
    refine HAM.out.mono ?_
    rintro e w5 ⟨z, rfl, _, hC, _⟩
    have HL5 := hid hC.later
    clear hC
    go_wp2_with fail
    go_ret2
    exact ⟨z, r, rfl, HL5.out⟩
  · have e0' : (c == 0) = false := by simp [e0]
    by_cases e1 : c = 1
    · subst e1
      have hl := lit_cells w4 [-1, 0, 20, 21]
      have HAM := hid (curAmong_any w _ B V bs _ w4.heap.size 4 [-1, 0, 20, 21] (by omega) (by simp) (by simp) (by have := HLT.out; omega) (HC4.out.alloc (.cells (([-1, 0, 20, 21] : List Int).map (Value.int .i64)).toArray 3)) hl)
      clear hl
      go_wp2_with fail
      refine HAM.out.mono ?_
      rintro e w5 ⟨z, rfl, _, hC, _⟩
      have HL5 := hid hC.later
      clear hC
      go_wp2_with fail
      go_ret2
      exact ⟨1 + p, z, rfl, HL5.out⟩
    · have e1' : (c == 1) = false := by simp [e1]
      go_wp2_with fail
      go_ret2
      exact ⟨1 + p, r, rfl, HL4.out⟩
end Go.Proofs.Ytdngocjhblpkkac
