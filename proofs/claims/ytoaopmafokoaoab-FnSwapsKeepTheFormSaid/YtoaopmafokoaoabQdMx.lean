/- Four curvatures: the matrix of a swap (the model and the program). -/
import Derived.Test.YtoaopmafokoaoabQdAB
import Derived.Test.YtoaopmafokoaoabSqTr
namespace Go.Proofs.Ytoaopmafokoaoab
open Go.RowKit

/-- the entries: row i tells the swap, the other rows are those of the unit matrix -/
def smF (i a b : Nat) : Int := if a = i then (if b = i then -1 else 2) else eqI a b
def smK (i k a b : Nat) : Int := if a = i ∧ b < k then 2 else eqI a b
theorem smK_zero (i : Nat) : mk 4 (smK i 0) = mk 4 eqI := mk_congr 4 _ _ fun a b _ _ => by simp [smK]
theorem smK_step (i k : Nat) : mk 4 (upd (smK i k) i k 2) = mk 4 (smK i (k + 1)) := mk_congr 4 _ _ fun a b _ _ => by
  unfold upd smK
  by_cases h1 : a = i <;> by_cases h2 : b = k <;> simp [h1, h2] <;> split <;> first | rfl | omega | (rename_i h; split <;> first | rfl | omega)
theorem smK_all (i : Nat) (_hi : i < 4) : mk 4 (upd (smK i 4) i i (-1)) = mk 4 (smF i) := mk_congr 4 _ _ fun a b _ hb => by
  unfold upd smK smF
  by_cases h1 : a = i
  · by_cases h2 : b = i
    · simp [h1, h2]
    · simp [h1, h2, hb]
  · simp [h1]
def smAns (i : Int) : Option (List (List Int)) := if within 0 3 i = true then some (mk 4 (smF i.toNat)) else none
theorem sm_good (i : Nat) (hi : i < 4) : ifGood (mk 4 (smF i)) = some (mk 4 (smF i)) := by
  have h4 : i = 0 ∨ i = 1 ∨ i = 2 ∨ i = 3 := by omega
  rcases h4 with rfl | rfl | rfl | rfl <;> decide
theorem sm_swap : ∀ i, i < 4 → ∀ a, a < 4 → ∀ b, b < 4 → (swL ([0, 0, 0, 0].set b 1) i).getD a 0 = smF i a b := by decide
set_option maxRecDepth 20000 in
set_option maxHeartbeats 4000000 in
theorem specSwapMatrix_any (i : Int) (w : World) :
    Calls Try.prog 32 #[.int .i64 i] w fun e w' => MatAns w (smAns i) e w' := by
  have hb0 : Box (w.alloc (Obj.cells #[Value.slice none 0 0] 44)) w.heap.size (.slice none 0 0) := ⟨by simp [go_sem], by simp [go_sem]⟩
  have HL0 := hid (Later.alloc w (Obj.cells #[Value.slice none 0 0] 44))
  cases hi : within 0 3 i
  · have HI := hid hi
    have HA := hid (show smAns i = none by unfold smAns; rw [hi]; simp)
    obtain ⟨hc0, hf0⟩ := hb0
    clear hi
    go_enter Try.func32, Try.ntmps32
    go_wp2_with fail
    refine (l1In_as _ _ _ _ _ HI.out).mono ?_
    rintro e w' ⟨rfl, rfl⟩
    go_wp2_with fail
    refine bodyPost_ret (v := .tuple #[.agg #[.slice none 0 0], .bool false]) (by simp [results, Try.results32, go_sem, hc0]) rfl ⟨_, by rw [HA.out]; rfl, by rw [HA.out]; exact OwnRows.empty _ _ _, ?_⟩
    first | exact HL0.out | exact HL0.out.setCell (by simp) _
  · have HI := hid hi
    have hib := within03.1 hi
    obtain ⟨j, rfl⟩ : ∃ j : Nat, i = (j : Int) := ⟨i.toNat, by omega⟩
    have HA := hid (show smAns (j : Int) = some (mk 4 (smF j)) by unfold smAns; rw [if_pos hi]; simp)
    have HJ := hid (show j < 4 by omega)
    have hj4 : (j : Int) < 4 := by omega
    have hj0 : (0 : Int) ≤ (j : Int) := by omega
    have HB0 := hid hb0
    clear hi hib hb0
    go_enter Try.func32, Try.ntmps32
    go_wp2_with fail
    generalize w.alloc (Obj.cells #[Value.slice none 0 0] 44) = w1 at HB0 HL0 ⊢
    refine (l1In_as _ _ _ _ _ HI.out).mono ?_
    rintro e w' ⟨rfl, rfl⟩
    go_wp2_with fail
    refine (foUnit_any 4 _ (by omega)).mono ?_
    rintro e w2 ⟨v2, rfl, ho, hL⟩
    have hun : unitM 4 = mk 4 (smK j 0) := (smK_zero j).symm
    rw [hun] at ho
    obtain ⟨g, cap, hv, hg⟩ : ∃ g cap, v2 = .slice (some ⟨g, 0, none⟩) 4 cap ∧ True := by
      obtain ⟨g, cap, _, _, hv, _⟩ := ho.at2 0 0 (by omega) (by omega)
      exact ⟨g, cap, hv, trivial⟩
    subst hv
    clear hg
    have hA := hL.trans (Later.alloc w2 (.cells #[.slice (some ⟨g, 0, none⟩) 4 cap] 44))
    have HX := hid (show Box (w2.alloc (.cells #[.slice (some ⟨g, 0, none⟩) 4 cap] 44)) w2.heap.size (.slice (some ⟨g, 0, none⟩) 4 cap) from ⟨by simp [go_sem], by simp [go_sem]⟩)
    have HB2 := hid (HB0.out.later hA)
    have HL2 := hid (HL0.out.trans hA)
    have HO := hid (ho.later (Later.alloc w2 (.cells #[.slice (some ⟨g, 0, none⟩) 4 cap] 44)))
    have HS1 := hid (show w.heap.size < w1.heap.size from HB0.out.lt)
    have HS2 := hid (show w1.heap.size ≤ w2.heap.size from hL.size)
    clear hA ho hL hun HB0 HL0
    obtain ⟨hcx, hfx⟩ := HX.out
    go_wp2_with fail
    generalize w2.alloc (.cells #[.slice (some ⟨g, 0, none⟩) 4 cap] 44) = w3 at HX HB2 HL2 HO hcx hfx ⊢
    obtain ⟨X, hX⟩ : ∃ X, w2.heap.size = X := ⟨_, rfl⟩
    obtain ⟨LO, hLO⟩ : ∃ LO, w1.heap.size = LO := ⟨_, rfl⟩
    obtain ⟨B, hB⟩ : ∃ B, w.heap.size = B := ⟨_, rfl⟩
    have HBW := hid (show w.heap.size ≤ B by omega)
    rw [hX] at HX HO HS2 hcx hfx ⊢
    rw [hLO] at HO HS1 HS2
    rw [hB] at HB2 HS1 ⊢
    clear hX hLO hB hcx hfx
    go_loopw [14] (fun i wr => ∃ k : Nat, k ≤ 4 ∧ i = .int .i64 k ∧ OwnRows LO X wr (.slice (some ⟨g, 0, none⟩) 4 cap) (mk 4 (smK j k)) ∧ Box wr X (.slice (some ⟨g, 0, none⟩) 4 cap) ∧ Box wr B (.slice none 0 0) ∧ Later w wr) (fun i _ => 4 - (intOf i).toNat)
    case atStart => exact ⟨0, by omega, rfl, HO.out, HX.out, HB2.out, HL2.out⟩
    case round =>
      clear HO HX HB2 HL2
      obtain ⟨k, hk, rfl, hO, hX, hB, hL⟩ := hrel
      have HO := hid hO
      have HX := hid hX
      have HB := hid hB
      have HL := hid hL
      by_cases hlt : k < 4
      · obtain ⟨g', cap', gu, cu, hv, q1, q2, e1, e2, e3, hst⟩ := hO.at2 j k HJ.out hlt
        simp only [Value.slice.injEq, Option.some.injEq, Addr.mk.injEq, and_true, true_and] at hv
        obtain ⟨rfl, rfl⟩ := hv
        obtain ⟨hcx, hfx⟩ := hX
        obtain ⟨s1, s2⟩ := hst 2
        rw [smK_step] at s1
        have HS3 := hid s1
        have hne1 : gu ≠ X := by omega
        have hne2 : gu ≠ B := by have := HS1.out; omega
        have HX3 := hid (HX.out.other (a := ⟨gu, k, none⟩) hne1 (.int .i64 2))
        have HB3 := hid (HB.out.other (a := ⟨gu, k, none⟩) hne2 (.int .i64 2))
        have HL3 := hid (show Later w (wr.setCell ⟨gu, k, none⟩ (.int .i64 2)) from HL.out.setCell (show w.heap.size ≤ gu by have := HBW.out; have := HS1.out; omega) _)
        have hkI : (k : Int) < 4 := by omega
        clear hO hB hL hst s1 s2
        go_wp2_with fail
        go_roundw
        case rel => exact ⟨k + 1, hlt, by go_num, HS3.out, HX3.out, HB3.out, HL3.out⟩
        case measure => simp [intOf]; omega
      · obtain rfl : k = 4 := by omega
        obtain ⟨g', cap', gu, cu, hv, q1, q2, e1, e2, e3, hst⟩ := hO.at2 j j HJ.out HJ.out
        simp only [Value.slice.injEq, Option.some.injEq, Addr.mk.injEq, and_true, true_and] at hv
        obtain ⟨rfl, rfl⟩ := hv
        obtain ⟨hcx, hfx⟩ := hX
        obtain ⟨hc0, hf0⟩ := hB
        obtain ⟨s1, s2⟩ := hst (-1)
        rw [smK_all j HJ.out] at s1
        have HS3 := hid s1
        have hne1 : gu ≠ X := by omega
        have hne2 : gu ≠ B := by have := HS1.out; omega
        have HX3 := hid (HX.out.other (a := ⟨gu, j, none⟩) hne1 (.int .i64 (-1)))
        have HB3 := hid (HB.out.other (a := ⟨gu, j, none⟩) hne2 (.int .i64 (-1)))
        have HL3 := hid (show Later w (wr.setCell ⟨gu, j, none⟩ (.int .i64 (-1))) from HL.out.setCell (show w.heap.size ≤ gu by have := HBW.out; have := HS1.out; omega) _)
        have HLX := hid (show X ≤ wr.heap.size from Nat.le_of_lt HX.out.lt)
        obtain ⟨k1, k2⟩ := HX3.out
        obtain ⟨k3, k4⟩ := HB3.out
        clear hL hst s1 s2
        go_wp2_with fail
        refine bodyPost_ret (v := .tuple #[.agg #[.slice (some ⟨g, 0, none⟩) 4 cap], .bool true]) (by simp [results, Try.results32, go_sem, k3]) rfl ⟨_, by rw [HA.out]; rfl, ?_, ?_⟩
        · rw [HA.out]
          exact (HS3.out.setCell (a := ⟨B, 0, none⟩) (by simp; have := HS1.out; omega) _).wide (by have := HBW.out; have := HS1.out; omega) (by simp [World.setCell]; exact HLX.out)
        · exact HL3.out.setCell (by simp; exact HBW.out) _
end Go.Proofs.Ytoaopmafokoaoab
