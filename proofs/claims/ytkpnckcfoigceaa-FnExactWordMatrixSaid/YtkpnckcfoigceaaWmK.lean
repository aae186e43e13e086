/- Marks on a list of matrices of the call's own. -/
import Derived.Test.YtkpnckcfoigceaaWmE
namespace Go.Proofs.Ytkpnckcfoigceaa
open Go.RowKit

theorem cut_mono {cut : Nat → Nat} {k : Nat} (h : ∀ i, i < k → cut i ≤ cut (i + 1)) (i d : Nat) (hi : i + d ≤ k) : cut i ≤ cut (i + d) := by
  induction d with
  | zero => exact Nat.le_refl _
  | succ d ih => exact Nat.le_trans (ih (by omega)) (h (i + d) (by omega))

set_option maxRecDepth 20000 in
set_option maxHeartbeats 1000000 in
theorem markMatrixS_any (lo g cap : Nat) (cut : Nat → Nat) (Z : List (List (List Int))) (k0 : Int) (w : World) (hk0 : 0 ≤ k0) (hk1 : k0 ≤ 4503599627370496) (hn : Z.length ≤ 1048576) (hb : ∀ i, i < Z.length → SzIn (Z.getD i []) 1048576)
    (h : LaidMats lo w g Z.length cap Z.length cut Z) :
    Calls Try.prog 14 #[.slice (some ⟨g, 0, none⟩) Z.length cap, .int .i64 k0] w fun e w' =>
      ∃ r : Int, e = .returned (.int .i64 r) ∧ k0 ≤ r ∧ r ≤ k0 + 1099511627776 * (Z.length : Int) ∧ Wrote (fun b => cut 0 ≤ b ∧ b < cut Z.length) w w' := by
  obtain ⟨us, how, hg, hm, hs, hr⟩ := h
  have hl : us.length = Z.length := by have := how.1; omega
  have HC := hid (fun i (hi : i < Z.length) => show w.cell? ⟨g, i, none⟩ = some (us.getD i undef) by rw [how.cellAt i (by omega), List.getD_eq_getElem?_getD, List.getElem?_eq_getElem (by omega)]; rfl)
  have HM := hid hm
  have HR := hid hr
  have HG := hid hg
  have HOF := hid (fun i (hi : i < Z.length) => off_args (Z.getD i []) (fun j hj => by have := (hb i hi).2 j hj; omega) (by have := (hb i hi).1; omega))
  clear hm hr hg hb how hl hs
  go_enter Try.func14, Try.ntmps14
  go_wp2_with fail
  go_loopw [1, 5] (fun x i wr => ∃ (k : Nat) (r : Int), k ≤ Z.length ∧ i = .int .i64 k ∧ x = .int .i64 r ∧ k0 ≤ r ∧ r ≤ k0 + 1099511627776 * (k : Int) ∧ Wrote (fun b => cut 0 ≤ b ∧ b < cut k) w wr) (fun _ i _ => Z.length - (intOf i).toNat)
  case atStart => exact ⟨0, _, Nat.zero_le _, rfl, rfl, Int.le_refl _, by omega, Wrote.refl _ _⟩
  case round =>
    obtain ⟨k, r, hk, rfl, rfl, hr0, hr1, hW⟩ := hrel
    have HW := hid hW
    by_cases hlt : k < Z.length
    · have hltI : (k : Int) < (Z.length : Int) := by omega
      have hcell := cell_keep (HC.out k hlt) (hW.block g (by have := HG.out; omega))
      have HO := hid ((HR.out k hlt).keep fun b hb1 _ => hW.block b (by omega))
      have hof := HOF.out k hlt
      have hcut := HM.out k hlt
      have h0k := cut_mono HM.out 0 k (by omega)
      rw [Nat.zero_add] at h0k
      obtain ⟨X, hX⟩ : ∃ X, Z.getD k [] = X := ⟨_, rfl⟩
      rw [hX] at HO hof
      obtain ⟨v, hv⟩ : ∃ v, us.getD k undef = v := ⟨_, rfl⟩
      rw [hv] at hcell HO
      obtain ⟨a4, c4, rfl, _⟩ := HO.out.shape
      obtain ⟨t, ht⟩ : ∃ t, off X X.length = t := ⟨_, rfl⟩
      rw [ht] at hof
      have HMA := hid (markIntSS_any (cut k) (cut (k + 1)) (.slice a4 X.length c4) X r wr ⟨by omega, by rw [ht]; omega⟩ HO.out)
      clear hX hv hW
      go_wp2_with fail
      refine HMA.out.mono ?_
      rintro e w4 ⟨rfl, _, hW4⟩
      have HW5 := hid (show Wrote (fun b => cut 0 ≤ b ∧ b < cut (k + 1)) w w4 from (HW.out.mono fun b hb => ⟨hb.1, by have := hb.2; omega⟩).trans (hW4.mono fun b hb => ⟨by have := hb.1; omega, hb.2⟩))
      rw [ht]
      clear hW4 ht
      go_wp2_with fail
      go_roundw
      case rel => exact ⟨k + 1, r + (t : Nat), hlt, by go_num, rfl, by omega, by omega, HW5.out⟩
      case measure => simp [intOf]; omega
    · have hke : k = Z.length := by omega
      subst hke
      go_wp2_with fail
      go_ret
      exact ⟨r, rfl, hr0, hr1, HW.out⟩
end Go.Proofs.Ytkpnckcfoigceaa
