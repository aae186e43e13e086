/- What the model draws for lists of pairs: three numbers, two numbers. -/
import Derived.Test.YtdahhcigphhfdaaCuJ
namespace Go.Proofs.Ytdahhcigphhfdaa
open Go.RowKit

/-- three numbers, whichever they are -/
def ThreeNums (base : World) (e : Ending) (w' : World) : Prop := ∃ a b c : Int, e = .returned (.tuple #[.int .i64 a, .int .i64 b, .int .i64 c]) ∧ Later base w'
theorem inList4 {z a b c d : Int} (h : z ∈ [a, b, c, d]) : z = a ∨ z = b ∨ z = c ∨ z = d := by simpa using h
set_option maxRecDepth 20000 in
set_option maxHeartbeats 8000000 in
theorem curLooked_any (base w : World) (B : Nat) (v : Value) (bs : List Int) (h : Cur base w B v bs 0) :
    Calls Try.prog 67 #[.pointer (some ⟨B, 0, none⟩)] w fun e w' => ThreeNums base e w' := by
  have H := hid h
  clear h
  go_enter Try.func67, Try.ntmps67
  go_wp2_with fail
  refine (curPick_any base w B v bs 0 8 (by omega) (by omega) H.out).mono ?_
  rintro e w1 ⟨p, rfl, p0, p1, hC, _⟩
  have HC := hid hC
  have p2 : p ≤ 7 := by simpa using p1
  have hpw := wrapEq (q := 1 + p) (by omega)
  clear hC p1
  go_wp2_with fail
  refine (curPick_any base w1 B v bs _ 41 (by omega) (by omega) HC.out).mono ?_
  rintro e w2 ⟨r, rfl, r0, r1, hC, _⟩
  have HC2 := hid hC
  have r2 : r ≤ 40 := by simpa using r1
  have hrw := wrapEq (q := r - 20) (by omega)
  clear hC r1
  go_wp2_with fail
  refine (curPick_any base w2 B v bs _ 60 (by omega) (by omega) HC2.out).mono ?_
  rintro e w3 ⟨m, rfl, m0, m1, hC, _⟩
  have HC3 := hid hC
  clear hC m1
  go_wp2_with fail
  refine (curPick_any base w3 B v bs _ 14 (by omega) (by omega) HC3.out).mono ?_
  rintro e w4 ⟨c, rfl, c0, c1, hC, _⟩
  have HC5 := hid hC
  have HL5 := hid hC.later
  have HLT := hid hC.lt
  clear hC c1
  by_cases e0 : c = 0
  · subst e0
    have hl := lit_cells w4 [-1, 0, 1000, 1001]
    have HAM := hid (curAmong_any base _ B v bs _ w4.heap.size 4 [-1, 0, 1000, 1001] (by omega) (by simp) (by simp) (by have := HLT.out; omega) (HC5.out.alloc (.cells (([-1, 0, 1000, 1001] : List Int).map (Value.int .i64)).toArray 3)) hl)
    clear hl
    go_wp2_with fail
    refine HAM.out.mono ?_
    rintro e w6 ⟨z, rfl, _, hC, _⟩
    have HL := hid hC.later
    clear hC
    go_wp2_with fail
    go_ret3
    exact ⟨z, r - 20, m, rfl, HL.out⟩
  · have e0' : (c == 0) = false := by simp [e0]
    by_cases e1 : c = 1
    · subst e1
      have hl := lit_cells w4 [-1001, -1000, 1000, 1001]
      have HAM := hid (curAmong_any base _ B v bs _ w4.heap.size 4 [-1001, -1000, 1000, 1001] (by omega) (by simp) (by simp) (by have := HLT.out; omega) (HC5.out.alloc (.cells (([-1001, -1000, 1000, 1001] : List Int).map (Value.int .i64)).toArray 3)) hl)
      clear hl
      go_wp2_with fail
      refine HAM.out.mono ?_
      rintro e w6 ⟨z, rfl, _, hC, _⟩
      have HL := hid hC.later
      clear hC
      go_wp2_with fail
      go_ret3
      exact ⟨1 + p, z, m, rfl, HL.out⟩
    · have e1' : (c == 1) = false := by simp [e1]
      by_cases e2 : c = 2
      · subst e2
        have hl := lit_cells w4 [-1, 0, 200, 201]
        have HAM := hid (curAmong_any base _ B v bs _ w4.heap.size 4 [-1, 0, 200, 201] (by omega) (by simp) (by simp) (by have := HLT.out; omega) (HC5.out.alloc (.cells (([-1, 0, 200, 201] : List Int).map (Value.int .i64)).toArray 3)) hl)
        clear hl
        go_wp2_with fail
        refine HAM.out.mono ?_
        rintro e w6 ⟨z, rfl, _, hC, _⟩
        have HL := hid hC.later
        clear hC
        go_wp2_with fail
        go_ret3
        exact ⟨1 + p, r - 20, z, rfl, HL.out⟩
      · have e2' : (c == 2) = false := by simp [e2]
        by_cases e3 : c = 3
        · subst e3
          have hl := lit_cells w4 [0, 1, 4, 9]
          have HAM := hid (curAmong_any base _ B v bs _ w4.heap.size 4 [0, 1, 4, 9] (by omega) (by simp) (by simp) (by have := HLT.out; omega) (HC5.out.alloc (.cells (([0, 1, 4, 9] : List Int).map (Value.int .i64)).toArray 3)) hl)
          clear hl
          go_wp2_with fail
          refine HAM.out.mono ?_
          rintro e w6 ⟨z, rfl, hz, hC, _⟩
          have HL := hid hC.later
          have hzw := wrapEq (q := -z) (by rcases inList4 hz with rfl | rfl | rfl | rfl <;> omega)
          clear hC hz
          go_wp2_with fail
          go_ret3
          exact ⟨2, -z, m, rfl, HL.out⟩
        · have e3' : (c == 3) = false := by simp [e3]
          go_wp2_with fail
          go_ret3
          exact ⟨1 + p, r - 20, m, rfl, HL5.out⟩
set_option maxRecDepth 20000 in
theorem drawPairsUpTo_any (v : Value) (bs : List Int) (w : World) (h : BytesR w v bs) :
    Calls Try.prog 8 #[v] w fun e w' => ThreeNums w e w' := by
  have HC := hid (fun ty => Cur.new w v bs h ty)
  obtain ⟨a, cap, rfl, _⟩ := id h
  clear h
  go_enter Try.func8, Try.ntmps8
  go_wp2_with fail
  refine (curLooked_any w _ w.heap.size _ bs (HC.out _)).mono ?_
  rintro e w1 ⟨x, y, k, rfl, hL⟩
  have HL := hid hL
  clear hL
  go_wp2_with fail
  go_ret3
  exact ⟨x, y, k, rfl, HL.out⟩
set_option maxRecDepth 20000 in
theorem drawKsUpTo_any (v : Value) (bs : List Int) (w : World) (h : BytesR w v bs) :
    Calls Try.prog 14 #[v] w fun e w' => TwoNums w e w' := by
  have HC := hid (fun ty => Cur.new w v bs h ty)
  obtain ⟨a, cap, rfl, _⟩ := id h
  clear h
  go_enter Try.func14, Try.ntmps14
  go_wp2_with fail
  refine (curLooked_any w _ w.heap.size _ bs (HC.out _)).mono ?_
  rintro e w1 ⟨x, y, k, rfl, hL⟩
  have HL := hid hL
  clear hL
  go_wp2_with fail
  go_ret2
  exact ⟨y, k, rfl, HL.out⟩
set_option maxRecDepth 20000 in
theorem drawKOfPair_any (v : Value) (bs : List Int) (w : World) (h : BytesR w v bs) :
    Calls Try.prog 18 #[v] w fun e w' => ThreeNums w e w' := by
  have HC := hid (fun ty => Cur.new w v bs h ty)
  obtain ⟨a, cap, rfl, _⟩ := id h
  clear h
  go_enter Try.func18, Try.ntmps18
  go_wp2_with fail
  refine (curJump_any w _ w.heap.size _ bs (HC.out _)).mono ?_
  rintro e w1 ⟨x, y, k, c, rfl, hC⟩
  have HL := hid hC.later
  clear hC
  go_wp2_with fail
  go_ret3
  exact ⟨x, y, c, rfl, HL.out⟩
end Go.Proofs.Ytdahhcigphhfdaa
