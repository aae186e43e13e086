/- TwoDescent in the program. -/
import Derived.Test.YtofmmegpadojlaaSqCD
namespace Go.Proofs.Ytofmmegpadojlaa
open Go.RowKit

theorem run2_len (p : Int) : ∀ (f : Nat) (a b m : Int), (run2 p f a b m).length ≤ f + 1 ∧ ∀ r ∈ run2 p f a b m, r.length ≤ 3 := by
  intro f
  induction f with
  | zero => intro a b m; simp [run2]
  | succ f ih =>
    intro a b m
    unfold run2
    split
    · simp
    · obtain ⟨h1, h2⟩ := ih (Sq.st2 a b m).1 (Sq.st2 a b m).2 (((Sq.st2 a b m).1 * (Sq.st2 a b m).1 + (Sq.st2 a b m).2 * (Sq.st2 a b m).2) / p)
      refine ⟨by rw [List.length_cons]; omega, fun r hr => ?_⟩
      rcases List.mem_cons.1 hr with rfl | hr
      · simp
      · exact h2 r hr
theorem rootOk_iff {p : Int} (h : rootOk p = true) : ∃ n : Nat, p = (n : Int) ∧ n ≤ 1000000 ∧ Sq.Prim n ∧ n % 4 ≠ 3 := by
  unfold rootOk at h
  rw [Bool.and_eq_true, decide_eq_true_eq] at h
  obtain ⟨h1, h2, hpr⟩ := primUp_iff.1 h.1
  obtain ⟨n, rfl⟩ : ∃ n : Nat, p = (n : Int) := ⟨p.toNat, by omega⟩
  have hr4 : (n : Int).tmod 4 = ((n % 4 : Nat) : Int) := tmodN _ _
  refine ⟨n, rfl, by omega, hpr, fun e => h.2 ?_⟩
  rw [hr4, e]; rfl
theorem two_off (x : Int) : off ((twoAns x).getD []) ((twoAns x).getD []).length ≤ 1000000000000 := by
  unfold twoAns
  split
  · rename_i h
    obtain ⟨n, rfl, hn, hpr, h3⟩ := rootOk_iff h
    obtain ⟨m, _, hm2, _, hmp⟩ := two_start hpr h3
    simp only [Option.getD_some, Int.toNat_natCast]
    have hl := run2_len (n : Int) (two0 n / n).toNat (Sq.minusN n : Nat) 1 (two0 n / n)
    rw [hm2, Int.toNat_natCast] at hl
    have e : twoL n = run2 n m (Sq.minusN n : Nat) 1 m := by unfold twoL; rw [hm2, Int.toNat_natCast]
    rw [e]
    generalize run2 n m (Sq.minusN n : Nat) 1 m = A at hl
    have h3 := off_bound A 3 A.length (fun i hi => by
      rw [List.getD_eq_getElem?_getD, List.getElem?_eq_getElem hi]
      exact hl.2 _ (List.getElem_mem hi)) (Nat.le_refl _)
    have h4 : A.length * (3 + 1) ≤ 1000001 * (3 + 1) := Nat.mul_le_mul_right _ (by omega)
    omega
  · simp [off]
set_option maxRecDepth 20000 in
set_option maxHeartbeats 2000000 in
theorem implTwoDescent_any (p : Int) (w : World) : Calls Try.prog 9 #[.int .i64 p] w fun e w' => RowsAns w (twoAns p) e w' := by
  have HR := hid (fun w => implRootOfMinusOne_any p w)
  cases hR : rootOk p
  · have HA := hid (show twoAns p = none by unfold twoAns; rw [hR]; rfl)
    have HS := hid (show sqMinusAns p = none by unfold sqMinusAns; rw [hR]; rfl)
    rw [HS.out] at HR
    clear hR
    go_enter Try.func9, Try.ntmps9
    go_wp2_with (go_at_call 11; refine (HR.out _).mono ?_; rintro e w2 ⟨rfl, hL2⟩; have HL2 := hid hL2; clear hL2)
    go_ret2
    rw [HA.out]
    exact ⟨_, rfl, OwnRows.noneH _ _ _, HL2.out⟩
  · obtain ⟨n, rfl, hn, hpr, h3⟩ := rootOk_iff hR
    obtain ⟨m, _, hm2, hD, hmp⟩ := two_start hpr h3
    have e : twoL n = run2 n m (Sq.minusN n : Nat) 1 m := by unfold twoL; rw [hm2, Int.toNat_natCast]
    have HA := hid (show twoAns (n : Int) = some (run2 n m (Sq.minusN n : Nat) 1 m) by unfold twoAns; rw [if_pos hR, Int.toNat_natCast, e])
    have HS := hid (show sqMinusAns (n : Int) = some ((Sq.minusN n : Nat) : Int) by unfold sqMinusAns; rw [if_pos hR, Int.toNat_natCast])
    rw [HS.out] at HR
    have hp1 := hpr.1
    have HDC := hid (fun w => descentOf2_any n (Sq.minusN n : Nat) 1 m w ⟨by omega, hn⟩ hD)
    clear hR hD e hm2 hpr h3
    obtain ⟨A, hA⟩ : ∃ A : Int, ((Sq.minusN n : Nat) : Int) = A := ⟨_, rfl⟩
    rw [hA] at HDC HA HR
    clear hA HS
    go_enter Try.func9, Try.ntmps9
    go_wp2_with (first
      | (go_at_call 11; refine (HR.out _).mono ?_; rintro e w2 ⟨rfl, hL2⟩; have HL2 := hid hL2; clear hL2)
      | (go_at_call 57; refine (HDC.out _).mono ?_; rintro e w3 ⟨v3, rfl, hO3, hL3⟩; have HO3 := hid hO3; have HL3 := hid hL3; clear hO3 hL3))
    go_ret2
    rw [HA.out]
    exact ⟨v3, rfl, HO3.out.wide HL2.out.size (Nat.le_refl _), HL2.out.trans HL3.out⟩
end Go.Proofs.Ytofmmegpadojlaa
