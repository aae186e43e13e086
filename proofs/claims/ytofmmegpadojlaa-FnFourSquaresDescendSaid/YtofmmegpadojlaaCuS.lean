/- What the model draws for sums of squares: prime numbers and others, whichever they are. -/
import Derived.Test.YtofmmegpadojlaaCuAB
import Derived.Test.YtofmmegpadojlaaSqE
namespace Go.Proofs.Ytofmmegpadojlaa
open Go.RowKit

theorem Cur.new9 (w : World) (v : Value) (bs : List Int) (h : BytesR w v bs) (ty : TypeId) : Cur w (w.alloc (.cells #[v, .int .i64 0, .int .u64 0] ty)) w.heap.size v bs 0 :=
  ⟨Later.alloc w _, Nat.le_refl _, h, by simp [go_sem], ⟨0, 0, by simp [go_sem], Nat.le_refl _, by simp [go_sem], by omega, by omega⟩, by simp [go_sem], by simp [go_sem]⟩
theorem Cur.lt9 {base w : World} {B : Nat} {v : Value} {bs : List Int} {m : Nat} (h : Cur base w B v bs m) : B < w.heap.size := World.block_lt_of_cell? w ⟨B, 0, none⟩ h.code
theorem Cur.alloc9 {base w : World} {B : Nat} {v : Value} {bs : List Int} {m : Nat} (h : Cur base w B v bs m) (o : Obj) : Cur base (w.alloc o) B v bs m := h.keep (Later.alloc w o)
theorem lit_cells9 (w : World) (zs : List Int) : ∀ i, i < zs.length → (w.alloc (.cells (zs.map (Value.int .i64)).toArray 3)).cell? ⟨w.heap.size, i, none⟩ = some (.int .i64 (zs.getD i 0)) := by
  intro i hi
  simp [go_sem, hi]
/-- one number, whichever it is -/
def OneNum9 (base : World) (e : Ending) (w' : World) : Prop := ∃ a : Int, e = .returned (.int .i64 a) ∧ Later base w'
def CurBit9 (base : World) (B : Nat) (v : Value) (bs : List Int) (m : Nat) (e : Ending) (w' : World) : Prop := ∃ b : Bool, e = .returned (.bool b) ∧ Cur base w' B v bs m
theorem curOne9_any (base w : World) (B : Nat) (v : Value) (bs : List Int) (m : Nat) (n : Int) (hm : m ≤ 900000000) (hn : n ≤ 9223372036854775807) (h : Cur base w B v bs m) :
    Calls Try.prog 99 #[.pointer (some ⟨B, 0, none⟩), .int .i64 n] w fun e w' => CurBit9 base B v bs (m + 2) e w' := by
  have H := hid h
  clear h
  go_enter Try.func99, Try.ntmps99
  go_wp2_with fail
  refine (curPick_any base w B v bs m n hm hn H.out).mono ?_
  rintro e w1 ⟨x, rfl, _, _, hC, _⟩
  have HC := hid hC
  clear hC
  go_wp2_with fail
  go_ret
  exact ⟨_, rfl, HC.out⟩
def ls9 (a b : Int) : Int := if a < b then a else b
theorem l1Least9_any (a b : Int) (w : World) : Calls Try.prog 113 #[.int .i64 a, .int .i64 b] w fun e w' => e = .returned (.int .i64 (ls9 a b)) ∧ w = w' := by
  by_cases h : a < b
  · have HA := hid (show ls9 a b = a by unfold ls9; rw [if_pos h])
    go_enter Try.func113, Try.ntmps113
    go_wp2_with fail
    go_ret
    exact ⟨by rw [HA.out]; rfl, rfl⟩
  · have HA := hid (show ls9 a b = b by unfold ls9; rw [if_neg h])
    go_enter Try.func113, Try.ntmps113
    go_wp2_with fail
    go_ret
    exact ⟨by rw [HA.out]; rfl, rfl⟩
set_option maxRecDepth 20000 in
set_option maxHeartbeats 4000000 in
theorem curPrime_any (base w : World) (B : Nat) (v : Value) (bs : List Int) (m : Nat) (most : Int) (hm : m ≤ 800000000) (h2 : 3 ≤ most ∧ most ≤ 1000000) (h : Cur base w B v bs m) :
    Calls Try.prog 102 #[.pointer (some ⟨B, 0, none⟩), .int .i64 most] w fun e w' => OneNum9 base e w' := by
  have H := hid h
  clear h
  go_enter Try.func102, Try.ntmps102
  go_wp2_with fail
  refine (curOne9_any base w B v bs m 8 (by omega) (by omega) H.out).mono ?_
  rintro e w2 ⟨b, rfl, hC⟩
  have HC2 := hid hC
  have HLT := hid hC.lt9
  clear hC
  cases b
  · have HLS := hid (l1Least9_any most 3000 w2)
    obtain ⟨l, hl⟩ : ∃ l, ls9 most 3000 = l := ⟨_, rfl⟩
    have hlb : 3 ≤ l ∧ l ≤ 3000 := by rw [← hl]; unfold ls9; split <;> omega
    rw [hl] at HLS
    clear hl
    go_wp2_with fail
    refine HLS.out.mono ?_
    rintro e w3 ⟨rfl, rfl⟩
    go_wp2_with fail
    refine (curPick_any base _ B v bs _ (l - 2) (by omega) (by omega) HC2.out).mono ?_
    rintro e w3 ⟨r, rfl, r0, r1, hC, _⟩
    have HL := hid hC.later
    have hr2 : r ≤ 3000 := by split at r1 <;> omega
    clear hC r1
    go_wp2_with fail
    go_loopw [5] (fun x wr => ∃ n : Nat, x = .int .i64 n ∧ 2 ≤ n ∧ n ≤ 3002 ∧ wr = w3) (fun x _ => (intOf x).toNat)
    case atStart => exact ⟨(2 + r).toNat, by rw [Int.toNat_of_nonneg (by omega)], by omega, by omega, rfl⟩
    case round =>
      obtain ⟨n, rfl, n2, n3, rfl⟩ := hrel
      have HP := hid (sqPrime_any (n : Int) wr (by omega))
      have hp2 : n = 2 → primI (n : Int) = true := fun e => by subst e; decide
      obtain ⟨q, hq⟩ : ∃ q, primI (n : Int) = q := ⟨_, rfl⟩
      rw [hq] at HP hp2
      clear hq
      cases q
      · have hn3 : 3 ≤ n := by
          refine Nat.not_lt.1 fun hh => ?_
          have := hp2 (by omega)
          cases this
        clear hp2
        go_wp2_with fail
        refine HP.out.mono ?_
        rintro e w4 ⟨rfl, rfl⟩
        go_wp2_with fail
        go_roundw
        case rel => exact ⟨n - 1, by go_num, by omega, by omega, trivial⟩
        case measure => simp [intOf]; omega
      · clear hp2
        go_wp2_with fail
        refine HP.out.mono ?_
        rintro e w4 ⟨rfl, rfl⟩
        go_wp2_with fail
        go_ret
        exact ⟨_, rfl, HL.out⟩
  · have hl := lit_cells9 w2 [-1, 0, 1, 2, 3, 4, most, most + 1]
    have HAM := hid (curAmong_any base _ B v bs _ w2.heap.size 8 [-1, 0, 1, 2, 3, 4, most, most + 1] (by omega) (by simp) (by simp) (by have := HLT.out; omega) (HC2.out.alloc9 (.cells (([-1, 0, 1, 2, 3, 4, most, most + 1] : List Int).map (Value.int .i64)).toArray 3)) hl)
    clear hl
    go_wp2_with fail
    refine HAM.out.mono ?_
    rintro e w5 ⟨z, rfl, _, hC, _⟩
    have HL5 := hid hC.later
    clear hC
    go_wp2_with fail
    go_ret
    exact ⟨z, rfl, HL5.out⟩
set_option maxRecDepth 20000 in
set_option maxHeartbeats 4000000 in
theorem drawFourStart_any (v : Value) (bs : List Int) (w : World) (h : BytesR w v bs) :
    Calls Try.prog 72 #[v] w fun e w' => OneNum9 w e w' := by
  have HC := hid (fun ty => Cur.new9 w v bs h ty)
  obtain ⟨a, cap, rfl, _⟩ := id h
  clear h
  go_enter Try.func72, Try.ntmps72
  go_wp2_with fail
  refine (curPrime_any w _ w.heap.size _ bs 0 2000 (by omega) (by omega) (HC.out _)).mono ?_
  rintro e w1 ⟨x, rfl, hL⟩
  have HL := hid hL
  clear hL
  go_wp2_with fail
  go_ret
  exact ⟨x, rfl, HL.out⟩
theorem drawFourDescent_any (v : Value) (bs : List Int) (w : World) (h : BytesR w v bs) :
    Calls Try.prog 20 #[v] w fun e w' => OneNum9 w e w' := by
  have HC := hid (drawFourStart_any v bs w h)
  clear h
  go_enter Try.func20, Try.ntmps20
  go_wp2_with fail
  refine HC.out.mono ?_
  rintro e w1 ⟨x, rfl, hL⟩
  have HL := hid hL
  clear hL
  go_wp2_with fail
  go_ret
  exact ⟨x, rfl, HL.out⟩
set_option maxRecDepth 20000 in
set_option maxHeartbeats 4000000 in
theorem drawRootOfMinusOne_any (v : Value) (bs : List Int) (w : World) (h : BytesR w v bs) :
    Calls Try.prog 56 #[v] w fun e w' => OneNum9 w e w' := by
  have HC := hid (fun ty => Cur.new9 w v bs h ty)
  obtain ⟨a, cap, rfl, _⟩ := id h
  clear h
  go_enter Try.func56, Try.ntmps56
  go_wp2_with fail
  refine (curPrime_any w _ w.heap.size _ bs 0 1000000 (by omega) (by omega) (HC.out _)).mono ?_
  rintro e w1 ⟨x, rfl, hL⟩
  have HL := hid hL
  clear hL
  go_wp2_with fail
  go_ret
  exact ⟨x, rfl, HL.out⟩
theorem drawTwoDescent_any (v : Value) (bs : List Int) (w : World) (h : BytesR w v bs) :
    Calls Try.prog 8 #[v] w fun e w' => OneNum9 w e w' := by
  have HC := hid (drawRootOfMinusOne_any v bs w h)
  clear h
  go_enter Try.func8, Try.ntmps8
  go_wp2_with fail
  refine HC.out.mono ?_
  rintro e w1 ⟨x, rfl, hL⟩
  have HL := hid hL
  clear hL
  go_wp2_with fail
  go_ret
  exact ⟨x, rfl, HL.out⟩
end Go.Proofs.Ytofmmegpadojlaa
