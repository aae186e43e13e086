/- Contracts of determinants: the model's, all. -/
import Derived.Test.YtedgccbogjinhaaDetS
namespace Go.Proofs.Ytedgccbogjinhaa
open Go.RowKit

theorem sgn_succ' (j : Nat) : - sgn j = sgn (j + 1) := by unfold sgn; split <;> split <;> omega
theorem sgn_succ (j : Nat) : wrap64 (- sgn j) = sgn (j + 1) := by
  rw [sgn_succ']; exact IntWalk.wrap64_in _ (by unfold sgn; split <;> omega)

def DetAtS (n : Nat) : Prop := ∀ (m : List (List Int)), Sq n m → ∀ (v : Value) (w : World), RowsC w v m →
  Calls Try.prog 73 #[v] w fun e w' => e = .returned (.int .i64 (det n m)) ∧ Later w w'

set_option maxRecDepth 4000 in
set_option maxHeartbeats 1000000 in
theorem foDeterminant_any : ∀ (n : Nat), n ≤ 1048576 → DetAtS n
  | 0, _ => by
    intro m hq v w h
    obtain ⟨a, cap, rfl, hl⟩ := h.1.sqForm hq
    go_enter Try.func73, Try.ntmps73
    go_wp2_with fail
    go_ret
    exact ⟨rfl, Later.refl w⟩
  | n + 1, hn => by
    intro m hq v w h
    have IH := hid (foDeterminant_any n (by omega))
    obtain ⟨a, cap, rfl, hl⟩ := h.1.sqForm hq
    obtain ⟨ad, cap', ar, cr, hv, hcr, _, hx⟩ := h.1.ent hq 0 (by omega)
    obtain ⟨adr, rfl, _⟩ := hx 0 (by omega)
    simp only [Value.slice.injEq, true_and] at hv
    obtain ⟨rfl, rfl⟩ := hv
    have HX := hid hx
    have HR := hid h
    have HQ := hid hq
    have hcr2 : w.cell? ad = some (.slice (some adr) (n + 1) cr) := by simpa [Addr.add] using hcr
    have hz0 : ¬ ((n : Int) + 1 = 0) := by omega
    have hs0 : sgn 0 = 1 := rfl
    clear h hx hcr
    go_enter Try.func73, Try.ntmps73
    go_wp2_with fail
    clear hcr2
    rw [show ((n : Int) + 1 == 0) = false from beq_false_of_ne hz0]
    go_loopw [3, 4, 14] (fun s g y wr => ∃ j : Nat, j ≤ n + 1 ∧ y = .int .i64 j ∧ g = .int .i64 (sgn j) ∧ s = .int .i64 (wsum (fun j => wrap64 (wrap64 (sgn j * ent m 0 j) * det n (minorM n m 0 j))) j) ∧ Later w wr) (fun _ _ y _ => n + 1 - (intOf y).toNat)
    case atStart => exact ⟨0, Nat.zero_le _, rfl, rfl, rfl, Later.refl w⟩
    case round =>
      obtain ⟨j, hj, rfl, rfl, rfl, hL⟩ := hrel
      by_cases hlt : j < n + 1
      · obtain ⟨ad2, e2, hcx⟩ := HX.out j hlt
        simp only [Option.some.injEq] at e2
        subst e2
        have hcx2 := hL.cell hcx
        have HL := hid hL
        have HS := hid (wsum_succ (fun j => wrap64 (wrap64 (sgn j * ent m 0 j) * det n (minorM n m 0 j))) j)
        have HG := hid (sgn_succ j)
        have HG' := hid (sgn_succ' j)
        clear hL hcx
        have HM := hid (foMinor_any n m HQ.out hn 0 j (by omega) (by omega) _ wr (HR.out.later HL.out))
        generalize wsum (fun j => wrap64 (wrap64 (sgn j * ent m 0 j) * det n (minorM n m 0 j))) j = S at HS ⊢
        generalize sgn j = g at HG HG' HS ⊢
        generalize ent m 0 j = x at hcx2 HS
        go_wp2_with fail
        refine HM.out.mono ?_
        rintro e w2 ⟨v2, rfl, ho, hL2⟩
        have HO := hid ho.rowsC
        have HL2 := hid (HL.out.trans hL2)
        clear ho hL2 hcx2
        go_wp2_with fail
        refine (IH.out _ (minorM_sq n m 0 j) v2 _ HO.out).mono ?_
        rintro e w3 ⟨rfl, hL3⟩
        have HL3 := hid (HL2.out.trans hL3)
        clear hL3
        generalize det n (minorM n m 0 j) = d at HS ⊢
        go_wp2_with fail
        go_roundw
        case rel => exact ⟨j + 1, hlt, by go_num, by first | rw [← HG.out] | rw [← HG'.out], by rw [HS.out], HL3.out⟩
        case measure => simp [intOf]; omega
      · have hjn : j = n + 1 := by omega
        subst hjn
        have HD := hid (show wsum (fun j => wrap64 (wrap64 (sgn j * ent m 0 j) * det n (minorM n m 0 j))) (n + 1) = det (n + 1) m from rfl)
        generalize wsum (fun j => wrap64 (wrap64 (sgn j * ent m 0 j) * det n (minorM n m 0 j))) (n + 1) = S at HD ⊢
        go_wp2_with fail
        go_ret
        exact ⟨by rw [← HD.out]; rfl, hL⟩
end Go.Proofs.Ytedgccbogjinhaa
