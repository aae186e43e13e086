/- What the model draws for pairs: numbers, whichever they are. -/
import Derived.Test.YtdahhcigphhfdaaCuQ
namespace Go.Proofs.Ytdahhcigphhfdaa
open Go.RowKit

/-- four numbers, whichever they are -/
def FourNums (base : World) (e : Ending) (w' : World) : Prop := ∃ a b c d : Int, e = .returned (.tuple #[.int .i64 a, .int .i64 b, .int .i64 c, .int .i64 d]) ∧ Later base w'
def CurFour (base : World) (B : Nat) (v : Value) (bs : List Int) (m : Nat) (e : Ending) (w' : World) : Prop :=
  ∃ x y k c : Int, e = .returned (.tuple #[.int .i64 x, .int .i64 y, .int .i64 k, .int .i64 c]) ∧ Cur base w' B v bs m
theorem results_four {fn : Func} {t u v s : Tmp} (h : fn.results = #[.tmp t, .tmp u, .tmp v, .tmp s]) (tmps : Array Value) (P : Program) (w : World) :
    (results fn tmps).run P w = .ok (.tuple #[tmps.getD t undef, tmps.getD u undef, tmps.getD v undef, tmps.getD s undef]) w := by
  simp [results, h]
set_option maxRecDepth 20000 in
set_option maxHeartbeats 8000000 in
theorem curJump_any (base w : World) (B : Nat) (v : Value) (bs : List Int) (h : Cur base w B v bs 0) :
    Calls Try.prog 83 #[.pointer (some ⟨B, 0, none⟩)] w fun e w' => CurFour base B v bs 40 e w' := by
  have H := hid h
  clear h
  go_enter Try.func83, Try.ntmps83
  go_wp2_with fail
  refine (curPick_any base w B v bs 0 12 (by omega) (by omega) H.out).mono ?_
  rintro e w1 ⟨p, rfl, p0, p1, hC, _⟩
  have HC := hid hC
  obtain ⟨x0, hx0⟩ : ∃ q, 1 + p = q := ⟨_, rfl⟩
  have x1 : 1 ≤ x0 := by omega
  have x2 : x0 ≤ 12 := by simp at p1; omega
  have hx1w := wrapEq (q := x0) (by omega)
  have hx2w := wrapEq (q := x0 + 1) (by omega)
  clear hC p1
  go_wp2_with fail
  refine (curPick_any base w1 B v bs _ (x0 + 1) (by omega) (by omega) HC.out).mono ?_
  rintro e w2 ⟨y0, rfl, y1, y2, hC, _⟩
  have HC2 := hid hC
  have y3 : y0 ≤ 12 := by split at y2 <;> omega
  clear hC y2
  go_wp2_with fail
  refine (curPick_any base w2 B v bs _ 7 (by omega) (by omega) HC2.out).mono ?_
  rintro e w3 ⟨k0, rfl, k1, k2, hC, _⟩
  have HC3 := hid hC
  obtain ⟨k, hk⟩ : ∃ q, 1 + k0 = q := ⟨_, rfl⟩
  have k3 : 1 ≤ k := by omega
  have k4 : k ≤ 7 := by simp at k2; omega
  have hkw := wrapEq (q := k) (by omega)
  clear hC k2
  obtain ⟨A, hA⟩ : ∃ q, k * x0 = q := ⟨_, rfl⟩
  obtain ⟨A1, A2⟩ : 0 ≤ A ∧ A ≤ 7 * 12 := by rw [← hA]; exact ⟨Int.mul_nonneg (by omega) (by omega), Int.mul_le_mul k4 x2 (by omega) (by omega)⟩
  obtain ⟨C, hC2⟩ : ∃ q, A * y0 = q := ⟨_, rfl⟩
  obtain ⟨C1, C3⟩ : 0 ≤ C ∧ C ≤ 84 * 12 := by rw [← hC2]; exact ⟨Int.mul_nonneg (by omega) (by omega), Int.mul_le_mul A2 y3 (by omega) (by omega)⟩
  obtain ⟨D, hD⟩ : ∃ q, x0 * x0 = q := ⟨_, rfl⟩
  obtain ⟨D1, D2⟩ : 0 ≤ D ∧ D ≤ 12 * 12 := by rw [← hD]; exact ⟨Int.mul_nonneg (by omega) (by omega), Int.mul_le_mul x2 x2 (by omega) (by omega)⟩
  obtain ⟨E, hE⟩ : ∃ q, y0 * y0 = q := ⟨_, rfl⟩
  obtain ⟨E1, E2⟩ : 0 ≤ E ∧ E ≤ 12 * 12 := by rw [← hE]; exact ⟨Int.mul_nonneg (by omega) (by omega), Int.mul_le_mul y3 y3 (by omega) (by omega)⟩
  obtain ⟨F, hF⟩ : ∃ q, C - D = q := ⟨_, rfl⟩
  obtain ⟨G, hG⟩ : ∃ q, F - E = q := ⟨_, rfl⟩
  have hAw := wrapEq (q := A) (by omega)
  have hCw := wrapEq (q := C) (by omega)
  have hDw := wrapEq (q := D) (by omega)
  have hEw := wrapEq (q := E) (by omega)
  have hFw := wrapEq (q := F) (by omega)
  have hGw := wrapEq (q := G) (by omega)
  clear A1 A2 C1 C3 D1 D2 E1 E2 k1
  go_upto_region 5 with fail
  clear hA hC2 hD hE hF hG hAw hCw hDw hEw hFw hGw hx0 hx1w hx2w hk hkw p0
  go_wp2_with fail
  refine (curPick_any base w3 B v bs _ 6 (by omega) (by omega) HC3.out).mono ?_
  rintro e w4 ⟨n, rfl, n0, n1, hC, _⟩
  have HC4 := hid hC
  clear hC
  go_wp2_with fail
  go_loopw [6, 7, 10, 11] (fun s6 s7 s10 s11 wr => ∃ (x y : Int) (j : Nat), s6 = .int .i64 x ∧ s7 = .int .i64 y ∧ s10 = .int .i64 j ∧ 1 ≤ x ∧ x ≤ 100000 ∧ 0 ≤ y ∧ y ≤ 100000 ∧ j ≤ 6 ∧ wr = w4) (fun _ _ s10 _ _ => (intOf s10).toNat)
  case atStart => exact ⟨x0, y0, n.toNat, rfl, rfl, by rw [Int.toNat_of_nonneg n0], x1, by omega, y1, by omega, by simp at n1; omega, rfl⟩
  case round =>
    obtain ⟨x, y, j, rfl, rfl, rfl, x1, x2, y1, y2, hj, rfl⟩ := hrel
    obtain ⟨t, ht⟩ : ∃ q, k * x = q := ⟨_, rfl⟩
    obtain ⟨t1, t2⟩ : 0 ≤ t ∧ t ≤ 7 * 100000 := by rw [← ht]; exact ⟨Int.mul_nonneg (by omega) (by omega), Int.mul_le_mul k4 x2 (by omega) (by omega)⟩
    cases j with
    | zero =>
      clear ht t1 t2
      go_wp2_with fail
      refine (curPick_any base wr B v bs _ 14 (by omega) (by omega) HC4.out).mono ?_
      rintro e w5 ⟨c, rfl, c0, c1, hC, _⟩
      have HC5 := hid hC
      have HLT := hid hC.lt
      clear hC c1
      by_cases e0 : c = 0
      · subst e0
        have hl := lit_cells w5 [-1, 0, 1000000, 1000001, 4611686018427387904]
        have HAM := hid (curAmong_any base _ B v bs _ w5.heap.size 5 [-1, 0, 1000000, 1000001, 4611686018427387904] (by omega) (by simp) (by simp) (by have := HLT.out; omega) (HC5.out.alloc (.cells (([-1, 0, 1000000, 1000001, 4611686018427387904] : List Int).map (Value.int .i64)).toArray 3)) hl)
        clear hl
        go_wp2_with fail
        refine HAM.out.mono ?_
        rintro e w6 ⟨z, rfl, _, hC, _⟩
        have HC6 := hid (hC.mono (n := 40) (by omega))
        clear hC
        go_wp2_with fail
        refine bodyPost_ret (results_four rfl _ _ _) rfl ?_
        exact ⟨z, y, k, G, rfl, HC6.out⟩
      · have e0' : (c == 0) = false := by simp [e0]
        by_cases e1 : c = 1
        · subst e1
          have hxw := wrapEq (q := x + 1) (by omega)
          have hl := lit_cells w5 [-1, 0, x, x + 1]
          have HAM := hid (curAmong_any base _ B v bs _ w5.heap.size 4 [-1, 0, x, x + 1] (by omega) (by simp) (by simp) (by have := HLT.out; omega) (HC5.out.alloc (.cells (([-1, 0, x, x + 1] : List Int).map (Value.int .i64)).toArray 3)) hl)
          clear hl
          go_wp2_with fail
          refine HAM.out.mono ?_
          rintro e w6 ⟨z, rfl, _, hC, _⟩
          have HC6 := hid (hC.mono (n := 40) (by omega))
          clear hC
          go_wp2_with fail
          refine bodyPost_ret (results_four rfl _ _ _) rfl ?_
          exact ⟨x, z, k, G, rfl, HC6.out⟩
        · have e1' : (c == 1) = false := by simp [e1]
          by_cases e2 : c = 2
          · subst e2
            have hl := lit_cells w5 [-1, 0, 1, 1000, 1001]
            have HAM := hid (curAmong_any base _ B v bs _ w5.heap.size 5 [-1, 0, 1, 1000, 1001] (by omega) (by simp) (by simp) (by have := HLT.out; omega) (HC5.out.alloc (.cells (([-1, 0, 1, 1000, 1001] : List Int).map (Value.int .i64)).toArray 3)) hl)
            clear hl
            go_wp2_with fail
            refine HAM.out.mono ?_
            rintro e w6 ⟨z, rfl, _, hC, _⟩
            have HC6 := hid (hC.mono (n := 40) (by omega))
            clear hC
            go_wp2_with fail
            refine bodyPost_ret (results_four rfl _ _ _) rfl ?_
            exact ⟨x, y, z, G, rfl, HC6.out⟩
          · have e2' : (c == 2) = false := by simp [e2]
            by_cases e3 : c = 3
            · subst e3
              have hl := lit_cells w5 [-1001, -1000, 1000, 1001]
              have HAM := hid (curAmong_any base _ B v bs _ w5.heap.size 4 [-1001, -1000, 1000, 1001] (by omega) (by simp) (by simp) (by have := HLT.out; omega) (HC5.out.alloc (.cells (([-1001, -1000, 1000, 1001] : List Int).map (Value.int .i64)).toArray 3)) hl)
              clear hl
              go_wp2_with fail
              refine HAM.out.mono ?_
              rintro e w6 ⟨z, rfl, _, hC, _⟩
              have HC6 := hid (hC.mono (n := 40) (by omega))
              clear hC
              go_wp2_with fail
              refine bodyPost_ret (results_four rfl _ _ _) rfl ?_
              exact ⟨x, y, k, z, rfl, HC6.out⟩
            · have e3' : (c == 3) = false := by simp [e3]
              have HC6 := hid (HC5.out.mono (n := 40) (by omega))
              go_wp2_with fail
              refine bodyPost_ret (results_four rfl _ _ _) rfl ?_
              exact ⟨x, y, k, G, rfl, HC6.out⟩
    | succ j =>
      have hj0 : (0 : Int) < ((j + 1 : Nat) : Int) := by omega
      obtain ⟨z, hz⟩ : ∃ q, t - y = q := ⟨_, rfl⟩
      have htw := wrapEq (q := t) (by omega)
      have hzw := wrapEq (q := z) (by omega)
      by_cases hzz : x ≤ z ∧ z ≤ 100000
      · have hw1 := within_yes hzz.1 hzz.2
        go_wp2_with (go_at_call 86; refine (l1In_any _ _ _ _).mono ?_; rintro e w5 ⟨rfl, rfl⟩)
        go_roundw
        case rel => exact ⟨z, x, j, rfl, rfl, by go_num, by omega, hzz.2, by omega, x2, by omega, trivial⟩
        case measure => simp [intOf]
      · have hw1 := within_no hzz
        go_wp2_with (go_at_call 86; refine (l1In_any _ _ _ _).mono ?_; rintro e w5 ⟨rfl, rfl⟩)
        go_roundw
        case rel => exact ⟨x, y, j, rfl, rfl, by go_num, x1, x2, y1, y2, by omega, trivial⟩
        case measure => simp [intOf]
/-- one number, whichever it is -/
def OneNum (base : World) (e : Ending) (w' : World) : Prop := ∃ a : Int, e = .returned (.int .i64 a) ∧ Later base w'
def CurBit (base _w : World) (B : Nat) (v : Value) (bs : List Int) (m : Nat) (e : Ending) (w' : World) : Prop := ∃ b : Bool, e = .returned (.bool b) ∧ Cur base w' B v bs m
theorem curOne_any (base w : World) (B : Nat) (v : Value) (bs : List Int) (m : Nat) (n : Int) (hm : m ≤ 900000000) (hn : n ≤ 9223372036854775807) (h : Cur base w B v bs m) :
    Calls Try.prog 108 #[.pointer (some ⟨B, 0, none⟩), .int .i64 n] w fun e w' => CurBit base w B v bs (m + 2) e w' := by
  have H := hid h
  clear h
  go_enter Try.func108, Try.ntmps108
  go_wp2_with fail
  refine (curPick_any base w B v bs m n hm hn H.out).mono ?_
  rintro e w1 ⟨x, rfl, _, _, hC, _⟩
  have HC := hid hC
  clear hC
  go_wp2_with fail
  go_ret
  exact ⟨_, rfl, HC.out⟩
end Go.Proofs.Ytdahhcigphhfdaa
