/- Four curvatures: the form of Descartes (the model and the program). -/
import Derived.Test.YtoaopmafokoaoabBasB
import Derived.Test.YtoaopmafokoaoabSqTr
import Derived.Deep.DeepCutAuto
namespace Go.Proofs.Ytoaopmafokoaoab
open Go.RowKit

def dfF (a b : Nat) : Int := if a = b then -1 else 1
/-- the rows before i are whole, row i holds ones up to k -/
def dfK (i k a b : Nat) : Int := if a < i then dfF a b else if a = i ∧ b < k then 1 else 0
theorem dfK_zero : zeroM 4 4 = mk 4 (dfK 0 0) := by decide
theorem dfK_step (i k : Nat) : mk 4 (upd (dfK i k) i k 1) = mk 4 (dfK i (k + 1)) := mk_congr 4 _ _ fun a b _ _ => by
  unfold upd dfK
  by_cases h1 : a = i
  · subst h1
    by_cases h2 : b = k
    · subst h2; simp
    · by_cases h3 : b < k
      · simp [h2, h3]; omega
      · simp [h2, h3]; omega
  · simp [h1]
theorem dfK_row (i : Nat) : mk 4 (upd (dfK i 4) i i (-1)) = mk 4 (dfK (i + 1) 0) := mk_congr 4 _ _ fun a b _ hb => by
  unfold upd dfK dfF
  by_cases h1 : a = i
  · subst h1
    by_cases h2 : b = a
    · simp [h2]
    · simp [h2, hb, Ne.symm h2]
  · by_cases h3 : a < i
    · simp [h1, h3, show a < i + 1 by omega]
    · simp [h1, h3, show ¬ a < i + 1 by omega]
theorem dfK_all : mk 4 (dfK 4 0) = mk 4 dfF := mk_congr 4 _ _ fun a b ha _ => by simp [dfK, ha]
set_option maxRecDepth 20000 in
set_option maxHeartbeats 4000000 in
theorem specDescartesForm_any (w : World) :
    Calls Try.prog 29 #[] w fun e w' => MadeMat w (mk 4 dfF) e w' := by
  have hb0 : Box (w.alloc (Obj.cells #[Value.slice none 0 0] 44)) w.heap.size (.slice none 0 0) := ⟨by simp [go_sem], by simp [go_sem]⟩
  have HL0 := hid (Later.alloc w (Obj.cells #[Value.slice none 0 0] 44))
  have HB0 := hid hb0
  clear hb0
  go_enter Try.func29, Try.ntmps29
  go_wp2_with fail
  generalize w.alloc (Obj.cells #[Value.slice none 0 0] 44) = w1 at HB0 HL0 ⊢
  refine (foZero_any 4 _ (by omega)).mono ?_
  rintro e w2 ⟨v2, rfl, ho, hL⟩
  rw [dfK_zero] at ho
  obtain ⟨g, cap, hv, hg⟩ : ∃ g cap, v2 = .slice (some ⟨g, 0, none⟩) 4 cap ∧ True := by
    obtain ⟨g, cap, _, _, hv, _⟩ := ho.at2 0 0 (by omega) (by omega)
    exact ⟨g, cap, hv, trivial⟩
  subst hv
  clear hg
  have hA := hL.trans (Later.alloc w2 (.cells #[.slice (some ⟨g, 0, none⟩) 4 cap] 44))
  have HX := hid (show Box (w2.alloc (.cells #[.slice (some ⟨g, 0, none⟩) 4 cap] 44)) w2.heap.size (.slice (some ⟨g, 0, none⟩) 4 cap) from ⟨by simp [go_sem], by simp [go_sem]⟩)
  have HB2 := hid (HB0.out.later hA)
  have HL2 := hid (HL0.out.trans hA)
  have HO := hid (ho.later (Later.alloc w2 (.cells #[.slice (some ⟨g, 0, none⟩) 4 cap] 44)))
  have HS1 := hid (show w.heap.size < w1.heap.size from HB0.out.lt)
  have HS2 := hid (show w1.heap.size ≤ w2.heap.size from hL.size)
  clear hA ho hL HB0 HL0
  obtain ⟨hcx, hfx⟩ := HX.out
  go_wp2_with fail
  generalize w2.alloc (.cells #[.slice (some ⟨g, 0, none⟩) 4 cap] 44) = w3 at HX HB2 HL2 HO hcx hfx ⊢
  obtain ⟨X, hX⟩ : ∃ X, w2.heap.size = X := ⟨_, rfl⟩
  obtain ⟨LO, hLO⟩ : ∃ LO, w1.heap.size = LO := ⟨_, rfl⟩
  obtain ⟨B, hB⟩ : ∃ B, w.heap.size = B := ⟨_, rfl⟩
  have HBW := hid (show w.heap.size ≤ B by omega)
  rw [hX] at HX HO HS2 hcx hfx ⊢
  rw [hLO] at HO HS1 HS2
  rw [hB] at HB2 HS1 ⊢
  clear hX hLO hB hcx hfx
  go_loopw [8] (fun i wr => ∃ k : Nat, k ≤ 4 ∧ i = .int .i64 k ∧ OwnRows LO X wr (.slice (some ⟨g, 0, none⟩) 4 cap) (mk 4 (dfK k 0)) ∧ Box wr X (.slice (some ⟨g, 0, none⟩) 4 cap) ∧ Box wr B (.slice none 0 0) ∧ Later w wr) (fun i _ => 4 - (intOf i).toNat)
  case atStart => exact ⟨0, by omega, rfl, HO.out, HX.out, HB2.out, HL2.out⟩
  case round =>
    clear HO HX HB2 HL2
    obtain ⟨k, hk, rfl, hO, hX, hB, hL⟩ := hrel
    have HO := hid hO
    have HX := hid hX
    have HB := hid hB
    have HL := hid hL
    by_cases hlt : k < 4
    · obtain ⟨hcx, hfx⟩ := hX
      have hkI : (k : Int) < 4 := by omega
      clear hO hB hL
      go_wp2_with fail
      go_loopw [14] (fun i wi => ∃ j : Nat, j ≤ 4 ∧ i = .int .i64 j ∧ OwnRows LO X wi (.slice (some ⟨g, 0, none⟩) 4 cap) (mk 4 (dfK k j)) ∧ Box wi X (.slice (some ⟨g, 0, none⟩) 4 cap) ∧ Box wi B (.slice none 0 0) ∧ Later w wi) (fun i _ => 4 - (intOf i).toNat)
      case atStart => exact ⟨0, by omega, rfl, HO.out, HX.out, HB.out, HL.out⟩
      case round =>
        clear HO HX HB HL hcx hfx
        obtain ⟨j, hj, rfl, hO, hX, hB, hL⟩ := hrel
        have HX := hid hX
        have HB := hid hB
        have HL := hid hL
        obtain ⟨hcx, hfx⟩ := hX
        by_cases hjt : j < 4
        · obtain ⟨g', cap', gu, cu, hv, q1, q2, e1, e2, e3, hst⟩ := hO.at2 k j hlt hjt
          simp only [Value.slice.injEq, Option.some.injEq, Addr.mk.injEq, and_true, true_and] at hv
          obtain ⟨rfl, rfl⟩ := hv
          obtain ⟨s1, s2⟩ := hst 1
          rw [dfK_step] at s1
          have HS3 := hid s1
          have hne1 : gu ≠ X := by omega
          have hne2 : gu ≠ B := by have := HS1.out; omega
          have HX3 := hid (HX.out.other (a := ⟨gu, j, none⟩) hne1 (.int .i64 1))
          have HB3 := hid (HB.out.other (a := ⟨gu, j, none⟩) hne2 (.int .i64 1))
          have HL3 := hid (show Later w (wr.setCell ⟨gu, j, none⟩ (.int .i64 1)) from HL.out.setCell (show w.heap.size ≤ gu by have := HBW.out; have := HS1.out; omega) _)
          have hjI : (j : Int) < 4 := by omega
          clear hO hB hL hst s1 s2
          go_wp2_with fail
          go_roundw
          case rel => exact ⟨j + 1, hjt, by go_num, HS3.out, HX3.out, HB3.out, HL3.out⟩
          case measure => simp [intOf]; omega
        · obtain rfl : j = 4 := by omega
          obtain ⟨g', cap', gu, cu, hv, q1, q2, e1, e2, e3, hst⟩ := hO.at2 k k hlt hlt
          simp only [Value.slice.injEq, Option.some.injEq, Addr.mk.injEq, and_true, true_and] at hv
          obtain ⟨rfl, rfl⟩ := hv
          obtain ⟨s1, s2⟩ := hst (-1)
          rw [dfK_row] at s1
          have HS3 := hid s1
          have hne1 : gu ≠ X := by omega
          have hne2 : gu ≠ B := by have := HS1.out; omega
          have HX3 := hid (HX.out.other (a := ⟨gu, k, none⟩) hne1 (.int .i64 (-1)))
          have HB3 := hid (HB.out.other (a := ⟨gu, k, none⟩) hne2 (.int .i64 (-1)))
          have HL3 := hid (show Later w (wr.setCell ⟨gu, k, none⟩ (.int .i64 (-1))) from HL.out.setCell (show w.heap.size ≤ gu by have := HBW.out; have := HS1.out; omega) _)
          clear hO hB hL hst s1 s2
          go_wp2_with fail
          go_roundw
          case rel => exact ⟨k + 1, hlt, by go_num, HS3.out, HX3.out, HB3.out, HL3.out⟩
          case measure => simp [intOf]; omega
    · obtain rfl : k = 4 := by omega
      rw [dfK_all] at HO
      obtain ⟨hcx, hfx⟩ := hX
      obtain ⟨hc0, hf0⟩ := hB
      have HLX := hid (show X ≤ wr.heap.size from Nat.le_of_lt HX.out.lt)
      clear hO hL
      go_wp2_with fail
      refine bodyPost_ret (v := .agg #[.slice (some ⟨g, 0, none⟩) 4 cap]) (by simp [results, Try.results29, go_sem, hc0]) rfl ⟨_, rfl, ?_, ?_⟩
      · exact (HO.out.setCell (a := ⟨B, 0, none⟩) (by simp; have := HS1.out; omega) _).wide (by have := HBW.out; have := HS1.out; omega) (by simp [World.setCell]; exact HLX.out)
      · exact HL.out.setCell (by simp; exact HBW.out) _
set_option maxRecDepth 20000 in
theorem dfEntry_any (a b : Nat) (w : World) :
    Calls Try.prog 68 #[.int .i64 a, .int .i64 b] w fun e w' => e = .returned (.int .i64 (dfF a b)) ∧ Later w w' := by
  have HE := hid (show 1 - 2 * eqI a b = dfF a b by unfold eqI dfF; split <;> rfl)
  have hb : 0 ≤ eqI a b ∧ eqI a b ≤ 1 := by unfold eqI; split <;> omega
  obtain ⟨z, hz⟩ : ∃ z, eqI a b = z := ⟨_, rfl⟩
  have HU := hid (fun (w0 : World) => show Calls Try.prog 69 #[.int .i64 a, .int .i64 b] w0 fun e w' => e = .returned (.int .i64 z) ∧ w0 = w' from hz ▸ unitEntry_any a b w0)
  rw [hz] at HE hb
  obtain ⟨b1, b2⟩ := hb
  clear hz
  go_enter Try.func68, Try.ntmps68
  go_wp2_with fail
  refine (HU.out _).mono ?_
  rintro e w' ⟨rfl, rfl⟩
  go_wp2_with fail
  go_ret
  exact ⟨ret_int HE.out, Later.refl _⟩
set_option maxRecDepth 20000 in
set_option maxHeartbeats 4000000 in
theorem implDescartesForm_any (w : World) :
    Calls Try.prog 27 #[] w fun e w' => MadeMat w (mk 4 dfF) e w' := by
  have hb0 : Box (w.alloc (Obj.cells #[Value.slice none 0 0] 44)) w.heap.size (.slice none 0 0) := ⟨by simp [go_sem], by simp [go_sem]⟩
  have HL0 := hid (Later.alloc w (Obj.cells #[Value.slice none 0 0] 44))
  have HB0 := hid hb0
  clear hb0
  go_enter Try.func27, Try.ntmps27
  go_wp2_with fail
  generalize w.alloc (Obj.cells #[Value.slice none 0 0] 44) = w1 at HB0 HL0 ⊢
  refine (gridOf_pure 4 68 #[] dfF _ (by omega) Try.call68 (fun a b w2 _ _ _ => dfEntry_any a b w2)).mono ?_
  rintro e w2 ⟨v2, rfl, ho, hL⟩
  obtain ⟨hc0, hf0⟩ := HB0.out.later hL
  have HO := hid ho
  have HL := hid (HL0.out.trans hL)
  have HS1 := hid (show w.heap.size < w1.heap.size from HB0.out.lt)
  obtain ⟨a, cap, rfl, _⟩ := ho.shape
  clear ho hL
  go_wp2_with fail
  refine bodyPost_ret (v := .agg #[.slice a (mk 4 dfF).length cap]) (by simp [results, Try.results27, go_sem, hc0]) rfl ⟨_, rfl, ?_, ?_⟩
  · exact (HO.out.setCell (a := ⟨w.heap.size, 0, none⟩) (by simp; exact HS1.out) _).wide (by have := HS1.out; omega) (by simp [World.setCell])
  · exact HL.out.setCell (by simp) _
end Go.Proofs.Ytoaopmafokoaoab
