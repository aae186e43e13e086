/- What is drawn for searches of solutions. -/
import Derived.Test.YtoaopmafokoaoaaCuHv
namespace Go.Proofs.Ytoaopmafokoaoaa
open Go.RowKit

set_option maxRecDepth 20000 in
set_option maxHeartbeats 4000000 in
theorem curSearch_any (base w : World) (B : Nat) (v : Value) (bs : List Int) (m : Nat) (hm : m ≤ 1000) (h : Cur base w B v bs m) :
    Calls Try.prog 61 #[.pointer (some ⟨B, 0, none⟩)] w fun e w' => CurTwoG base B v bs (m + 8) w e w' := by
  have H := hid h
  have HM := hid hm
  clear h hm
  go_enter Try.func61, Try.ntmps61
  go_wp2_with fail
  refine (curPick_any base w B v bs m 2 (by have := HM.out; omega) (by omega) H.out).mono ?_
  rintro e w1 ⟨p, rfl, p0, p1, hC, hG⟩
  have HC1 := hid hC
  have HG1 := hid hG
  have p2 : p ≤ 1 := by simpa using p1
  clear hC hG p1
  obtain ⟨A, hA⟩ : ∃ A, 3 + p = A := ⟨_, rfl⟩
  have hAw := wrapQ (q := A) (by omega)
  go_wp2_with fail
  refine (curPick_any base w1 B v bs _ 14 (by have := HM.out; omega) (by omega) HC1.out).mono ?_
  rintro e w2 ⟨q, rfl, q0, q1, hC, hG⟩
  have HC2 := hid hC
  have HG2 := hid (grown_trans HG1.out hG)
  have q2 : q ≤ 13 := by simpa using q1
  clear hC hG q1
  obtain ⟨E, hE⟩ : ∃ A, 1 + q = A := ⟨_, rfl⟩
  have hEw := wrapQ (q := E) (by omega)
  go_wp2_with fail
  refine (curPick_any base w2 B v bs _ 12 (by have := HM.out; omega) (by omega) HC2.out).mono ?_
  rintro e w3 ⟨c, rfl, c0, c1, hC, hG⟩
  have HC3 := hid hC
  have HG3 := hid (grown_trans HG2.out hG)
  clear hC hG c1
  by_cases e0 : c = 0
  · subst e0
    go_wp2_with fail
    refine (curLitG_any base w3 B v bs _ [-1, 2, 3, 4, 5] (by have := HM.out; omega) (by simp) (by simp) HC3.out).mono ?_
    rintro e w4 ⟨z, rfl, _, hC, hG⟩
    have HC4 := hid (hC.mono (n := m + 8) (by omega))
    have HG4 := hid (grown_trans HG3.out hG)
    clear hC hG
    go_wp2_with fail
    go_ret2
    exact ⟨z, E, rfl, HC4.out, HG4.out⟩
  · have e0' : (c == 0) = false := by simp [e0]
    by_cases e1 : c = 1
    · subst e1
      go_wp2_with fail
      refine (curLitG_any base w3 B v bs _ [-1, 0, 40, 41] (by have := HM.out; omega) (by simp) (by simp) HC3.out).mono ?_
      rintro e w4 ⟨z, rfl, _, hC, hG⟩
      have HC4 := hid (hC.mono (n := m + 8) (by omega))
      have HG4 := hid (grown_trans HG3.out hG)
      clear hC hG
      go_wp2_with fail
      go_ret2
      exact ⟨3, z, rfl, HC4.out, HG4.out⟩
    · have e1' : (c == 1) = false := by simp [e1]
      go_wp2_with fail
      go_ret2
      exact ⟨A, E, rfl, HC3.out.mono (by omega), HG3.out⟩
def FourNumG (base : World) (e : Ending) (w' : World) : Prop := ∃ a b c d : Int, e = .returned (.tuple #[.int .i64 a, .int .i64 b, .int .i64 c, .int .i64 d]) ∧ Later base w'
def ThreeNumS (base : World) (e : Ending) (w' : World) : Prop := ∃ a b c : Int, e = .returned (.tuple #[.int .i64 a, .int .i64 b, .int .i64 c]) ∧ Later base w'
set_option maxRecDepth 20000 in
set_option maxHeartbeats 4000000 in
theorem drawSolutionsUpTo_any (v : Value) (bs : List Int) (w : World) (h : BytesR w v bs) :
    Calls Try.prog 16 #[v] w fun e w' => FourNumG w e w' := by
  have HC := hid (fun ty => Cur.newG w v bs h ty)
  obtain ⟨a, cap, rfl, _⟩ := id h
  clear h
  go_enter Try.func16, Try.ntmps16
  go_wp2_with fail
  refine (curSearch_any w _ w.heap.size _ bs 0 (by omega) (HC.out _)).mono ?_
  rintro e w1 ⟨p, q, rfl, hC, _⟩
  have HC1 := hid hC
  clear hC HC
  go_wp2_with fail
  refine (curGiven_any w w1 w.heap.size _ bs _ (by omega) HC1.out).mono ?_
  rintro e w2 ⟨α, β, rfl, hC, _⟩
  have HL := hid hC.later
  clear hC HC1
  go_wp2_with fail
  refine bodyPost_ret (results_fourG rfl _ _ _) rfl ?_
  exact ⟨_, _, _, _, rfl, HL.out⟩
set_option maxRecDepth 20000 in
set_option maxHeartbeats 4000000 in
theorem drawFactorsFor_any (v : Value) (bs : List Int) (w : World) (h : BytesR w v bs) :
    Calls Try.prog 21 #[v] w fun e w' => ThreeNumS w e w' := by
  have HC := hid (fun ty => Cur.newG w v bs h ty)
  obtain ⟨a, cap, rfl, _⟩ := id h
  clear h
  go_enter Try.func21, Try.ntmps21
  go_wp2_with fail
  refine (curSearch_any w _ w.heap.size _ bs 0 (by omega) (HC.out _)).mono ?_
  rintro e w1 ⟨p, q, rfl, hC, _⟩
  have HC1 := hid hC
  clear hC HC
  go_wp2_with fail
  refine (curGiven_any w w1 w.heap.size _ bs _ (by omega) HC1.out).mono ?_
  rintro e w2 ⟨α, β, rfl, hC, _⟩
  have HL := hid hC.later
  clear hC HC1
  go_wp2_with fail
  go_ret3
  exact ⟨_, _, _, rfl, HL.out⟩
end Go.Proofs.Ytoaopmafokoaoaa
