/- What the model draws for right triples, in part: two numbers, a number; a list that is mostly a triple. -/
import Derived.Test.YtdahhcigphhfdacCuG
import Derived.Test.YtdahhcigphhfdacRiC
namespace Go.Proofs.Ytdahhcigphhfdac
open Go.RowKit

def TwoNumG (base : World) (e : Ending) (w' : World) : Prop := ∃ a b : Int, e = .returned (.tuple #[.int .i64 a, .int .i64 b]) ∧ Later base w'
/-- a list that a method of the cursor draws -/
def CurListG (base : World) (B : Nat) (v : Value) (bs : List Int) (m : Nat) (e : Ending) (w' : World) : Prop :=
  ∃ u zs, e = .returned u ∧ OwnInts (B + 1) w'.heap.size w' u zs ∧ zs.length ≤ 1000 ∧ Cur base w' B v bs m
def ListNumG (base : World) (e : Ending) (w' : World) : Prop := ∃ u zs, ∃ k : Int, e = .returned (.tuple #[u, .int .i64 k]) ∧ OwnInts base.heap.size w'.heap.size w' u zs ∧ zs.length ≤ 1000 ∧ Later base w'
theorem intsMadeG {w w' : World} {B : Nat} {v : Value} {zs : List Int} (h : OwnInts w.heap.size w'.heap.size w' v zs) (hB : B < w.heap.size) : OwnInts (B + 1) w'.heap.size w' v zs := h.wide hB (Nat.le_refl _)
set_option maxRecDepth 20000 in
set_option maxHeartbeats 4000000 in
theorem drawRightOfPair_any (v : Value) (bs : List Int) (w : World) (h : BytesR w v bs) :
    Calls Try.prog 8 #[v] w fun e w' => TwoNumG w e w' := by
  have HC := hid (fun ty => Cur.newG w v bs h ty)
  obtain ⟨a, cap, rfl, _⟩ := id h
  clear h
  go_enter Try.func8, Try.ntmps8
  go_wp2_with fail
  refine (curPick_any w _ w.heap.size _ bs 0 60 (by omega) (by omega) (HC.out _)).mono ?_
  rintro e w1 ⟨p, rfl, p0, p1, hC, _⟩
  have HC1 := hid hC
  obtain ⟨m, hm⟩ : ∃ q, 2 + p = q := ⟨_, rfl⟩
  have m1 : 2 ≤ m := by omega
  have m2 : m ≤ 61 := by simp at p1; omega
  have hmw := wrapQ (q := m) (by omega)
  clear hC p1 p0
  go_wp2_with fail
  refine (curPick_any w w1 w.heap.size _ bs _ m (by omega) (by omega) HC1.out).mono ?_
  rintro e w2 ⟨q, rfl, q0, q1, hC, _⟩
  have HC2 := hid hC
  have q2 : q ≤ 60 := by split at q1 <;> omega
  obtain ⟨n, hn⟩ : ∃ k, 1 + q = k := ⟨_, rfl⟩
  have hnw := wrapQ (q := n) (by omega)
  clear hC q1
  go_wp2_with fail
  refine (curPick_any w w2 w.heap.size _ bs _ 12 (by omega) (by omega) HC2.out).mono ?_
  rintro e w3 ⟨c, rfl, c0, c1, hC, _⟩
  have HC3 := hid hC
  have HL3 := hid hC.later
  clear hC c1 hm hn
  by_cases e0 : c = 0
  · subst e0
    go_wp2_with fail
    refine (curLitG_any w w3 w.heap.size _ bs _ [-1, 0, 1, 31622, 31623, 31624, 4611686018427387904] (by omega) (by simp) (by simp) HC3.out).mono ?_
    rintro e w4 ⟨z, rfl, _, hC, _⟩
    have HL4 := hid hC.later
    clear hC
    go_wp2_with fail
    go_ret2
    exact ⟨z, n, rfl, HL4.out⟩
  · have e0' : (c == 0) = false := by simp [e0]
    by_cases e1 : c = 1
    · subst e1
      go_wp2_with fail
      refine (curLitG_any w w3 w.heap.size _ bs _ [-1, 0, m, 4611686018427387904] (by omega) (by simp) (by simp) HC3.out).mono ?_
      rintro e w4 ⟨z, rfl, _, hC, _⟩
      have HL4 := hid hC.later
      clear hC
      go_wp2_with fail
      go_ret2
      exact ⟨m, z, rfl, HL4.out⟩
    · have e1' : (c == 1) = false := by simp [e1]
      go_wp2_with fail
      go_ret2
      exact ⟨m, n, rfl, HL3.out⟩
set_option maxRecDepth 20000 in
set_option maxHeartbeats 4000000 in
theorem drawRightUpTo_any (v : Value) (bs : List Int) (w : World) (h : BytesR w v bs) :
    Calls Try.prog 17 #[v] w fun e w' => OneNumG w e w' := by
  have HC := hid (fun ty => Cur.newG w v bs h ty)
  obtain ⟨a, cap, rfl, _⟩ := id h
  clear h
  go_enter Try.func17, Try.ntmps17
  go_wp2_with fail
  refine (curOneG_any w _ w.heap.size _ bs 0 10 (by omega) (by omega) (HC.out _)).mono ?_
  rintro e w1 ⟨b, rfl, hC, _⟩
  have HC1 := hid hC
  clear hC
  cases b
  · go_wp2_with fail
    refine (curPick_any w w1 w.heap.size _ bs _ 400 (by omega) (by omega) HC1.out).mono ?_
    rintro e w2 ⟨q, rfl, _, _, hC, _⟩
    have HL4 := hid hC.later
    clear hC
    go_wp2_with fail
    go_ret
    exact ⟨q, rfl, HL4.out⟩
  · go_wp2_with fail
    refine (curLitG_any w w1 w.heap.size _ bs _ [-1, 0, 4, 5, 1000, 5001] (by omega) (by simp) (by simp) HC1.out).mono ?_
    rintro e w4 ⟨z, rfl, _, hC, _⟩
    have HL4 := hid hC.later
    clear hC
    go_wp2_with fail
    go_ret
    exact ⟨z, rfl, HL4.out⟩
set_option maxRecDepth 20000 in
set_option maxHeartbeats 4000000 in
theorem drawBergMatrix_any (v : Value) (bs : List Int) (w : World) (h : BytesR w v bs) :
    Calls Try.prog 25 #[v] w fun e w' => OneNumG w e w' := by
  have HC := hid (fun ty => Cur.newG w v bs h ty)
  obtain ⟨a, cap, rfl, _⟩ := id h
  clear h
  go_enter Try.func25, Try.ntmps25
  go_wp2_with fail
  refine (curPick_any w _ w.heap.size _ bs 0 5 (by omega) (by omega) (HC.out _)).mono ?_
  rintro e w1 ⟨q, rfl, _, _, hC, _⟩
  have HL4 := hid hC.later
  clear hC
  go_wp2_with fail
  go_ret
  exact ⟨_, rfl, HL4.out⟩
theorem drawPriceMatrix_any (v : Value) (bs : List Int) (w : World) (h : BytesR w v bs) :
    Calls Try.prog 38 #[v] w fun e w' => OneNumG w e w' := by
  have HC := hid (drawBergMatrix_any v bs w h)
  clear h
  go_enter Try.func38, Try.ntmps38
  go_wp2_with fail
  refine HC.out.mono ?_
  rintro e w1 ⟨z, rfl, hL⟩
  have HL := hid hL
  clear hL
  go_wp2_with fail
  go_ret
  exact ⟨z, rfl, HL.out⟩
set_option maxRecDepth 20000 in
set_option maxHeartbeats 4000000 in
theorem drawWordOfRank_any (v : Value) (bs : List Int) (w : World) (h : BytesR w v bs) :
    Calls Try.prog 57 #[v] w fun e w' => ∃ a : Int, e = .returned (.int .i64 a) ∧ (-1 ≤ a ∧ a ≤ 4611686018427387904) ∧ Later w w' := by
  have HC := hid (fun ty => Cur.newG w v bs h ty)
  obtain ⟨a, cap, rfl, _⟩ := id h
  clear h
  go_enter Try.func57, Try.ntmps57
  go_wp2_with fail
  refine (curOneG_any w _ w.heap.size _ bs 0 6 (by omega) (by omega) (HC.out _)).mono ?_
  rintro e w1 ⟨b, rfl, hC, _⟩
  have HC1 := hid hC
  clear hC
  cases b
  · go_wp2_with fail
    refine (curPick_any w w1 w.heap.size _ bs _ 100000 (by omega) (by omega) HC1.out).mono ?_
    rintro e w2 ⟨q, rfl, q0, q1, hC, _⟩
    have HL4 := hid hC.later
    have q2 : q ≤ 99999 := by simpa using q1
    clear hC q1
    go_wp2_with fail
    go_ret
    exact ⟨q, rfl, by omega, HL4.out⟩
  · go_wp2_with fail
    refine (curLitG_any w w1 w.heap.size _ bs _ [-1, 0, 1, 581130732, 581130733, 4611686018427387904] (by omega) (by simp) (by simp) HC1.out).mono ?_
    rintro e w4 ⟨z, rfl, hz, hC, _⟩
    have HL4 := hid hC.later
    have z2 : -1 ≤ z ∧ z ≤ 4611686018427387904 := by simp at hz; omega
    clear hC hz
    go_wp2_with fail
    go_ret
    exact ⟨z, rfl, z2, HL4.out⟩
end Go.Proofs.Ytdahhcigphhfdac
