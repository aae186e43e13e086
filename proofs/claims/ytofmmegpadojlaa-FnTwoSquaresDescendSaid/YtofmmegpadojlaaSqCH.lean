/- FourDescent in both. -/
import Derived.Test.YtofmmegpadojlaaSqCG
namespace Go.Proofs.Ytofmmegpadojlaa
open Go.RowKit

theorem run4_len (p : Int) : ∀ (f : Nat) (q : Sq.Q4) (m : Int), (run4 p f q m).length ≤ f + 1 ∧ ∀ r ∈ run4 p f q m, r.length ≤ 5 := by
  intro f
  induction f with
  | zero => intro q m; simp [run4]
  | succ f ih =>
    intro q m
    unfold run4
    split
    · simp
    · obtain ⟨h1, h2⟩ := ih (Sq.st4 q m) ((Sq.st4 q m).sum / p)
      refine ⟨by rw [List.length_cons]; omega, fun r hr => ?_⟩
      rcases List.mem_cons.1 hr with rfl | hr
      · simp
      · exact h2 r hr
theorem four_off (x : Int) : off ((fourAns x).getD []) ((fourAns x).getD []).length ≤ 1000000000000 := by
  unfold fourAns
  split
  · rename_i h
    obtain ⟨h1, h2, hpr⟩ := primUp_iff.1 h
    obtain ⟨n, rfl⟩ : ∃ n : Nat, x = (n : Int) := ⟨x.toNat, by omega⟩
    obtain ⟨a, b, m, hS, hD, hmp⟩ := startD4 (p := n) hpr (by omega)
    have hp := hpr.1
    simp only [Option.getD_some, Int.toNat_natCast]
    have hp0 : 0 < n := by have : 2 ≤ n := hp; omega
    rw [fourL_is hp0 hS hD]
    have hl := run4_len (n : Int) m ⟨a, b, 1, 0⟩ m
    generalize run4 n m ⟨a, b, 1, 0⟩ m = A at hl
    have h3 := off_bound A 5 A.length (fun i hi => by
      rw [List.getD_eq_getElem?_getD, List.getElem?_eq_getElem hi]
      exact hl.2 _ (List.getElem_mem hi)) (Nat.le_refl _)
    have h4 : A.length * (5 + 1) ≤ 2001 * (5 + 1) := Nat.mul_le_mul_right _ (by omega)
    omega
  · simp [off]
theorem specFourDescent_any (p : Int) (w : World) : Calls Try.prog 22 #[.int .i64 p] w fun e w' => RowsAns w (fourAns p) e w' := by
  cases hP : primUp p 2000
  · have HP := hid hP
    have HA := hid (show fourAns p = none by unfold fourAns; rw [hP]; rfl)
    clear hP
    go_enter Try.func22, Try.ntmps22
    go_wp2_with (go_at_call 59; refine (sqGiven_as p 2000 _ _ (by omega) HP.out).mono ?_; rintro e w2 ⟨rfl, rfl⟩)
    go_ret2
    rw [HA.out]
    exact ⟨_, rfl, OwnRows.noneH _ _ _, Later.refl _⟩
  · obtain ⟨h1, h2, hpr⟩ := primUp_iff.1 hP
    obtain ⟨n, rfl⟩ : ∃ n : Nat, p = (n : Int) := ⟨p.toNat, by omega⟩
    have e : fourAns (n : Int) = some (fourL n) := by unfold fourAns; rw [if_pos hP]; rfl
    rw [e]
    exact specFourRun_any n w hpr (by omega) hP
set_option maxRecDepth 20000 in
set_option maxHeartbeats 2000000 in
theorem implFourDescent_any (p : Int) (w : World) : Calls Try.prog 21 #[.int .i64 p] w fun e w' => RowsAns w (fourAns p) e w' := by
  have HR := hid (fun w => implFourStart_any p w)
  cases hP : primUp p 2000
  · have HA := hid (show fourAns p = none by unfold fourAns; rw [hP]; rfl)
    have HS := hid (show startAns p = none by unfold startAns; rw [hP]; rfl)
    rw [HS.out] at HR
    clear hP
    go_enter Try.func21, Try.ntmps21
    go_wp2_with (go_at_call 23; refine (HR.out _).mono ?_; rintro e w2 ⟨v2, rfl, hO2, hL2⟩; have HL2 := hid hL2; clear hL2 hO2)
    go_ret2
    rw [HA.out]
    exact ⟨_, rfl, OwnRows.noneH _ _ _, HL2.out⟩
  · obtain ⟨h1, h2, hpr⟩ := primUp_iff.1 hP
    obtain ⟨n, rfl⟩ : ∃ n : Nat, p = (n : Int) := ⟨p.toNat, by omega⟩
    have hn : n ≤ 2000 := by omega
    obtain ⟨a, b, m, hS, hD, hmp⟩ := startD4 (p := n) hpr hn
    have hp0 : 2 ≤ n := hpr.1
    have HA := hid (show fourAns (n : Int) = some (run4 n m ⟨a, b, 1, 0⟩ m) by unfold fourAns; rw [if_pos hP, Int.toNat_natCast, fourL_is (by omega) hS hD])
    have HS := hid (show startAns (n : Int) = some [(a : Int), (b : Int), 1, 0] by unfold startAns; rw [if_pos hP, Int.toNat_natCast, hS])
    rw [HS.out] at HR
    have HDC := hid (fun w => descentOf4_any n a b 1 0 m w ⟨by omega, hn⟩ (prim_dvd (p := n) hpr) hD)
    clear hP hD hS HS hpr h1 h2
    go_enter Try.func21, Try.ntmps21
    go_wp2_with fail
    refine (HR.out _).mono ?_
    rintro e w2 ⟨v2, rfl, hO2, hL2⟩
    have HL2 := hid hL2
    obtain ⟨ad, cap, rfl, e0, e1, e2, e3⟩ := Ints.at4 (show Ints w2 v2 [(a : Int), (b : Int), 1, 0] from hO2.ints)
    clear hL2 hO2
    have harr : ∀ w0, (Instr.arrayAt 57 (.slice (some ad) 4 cap)).run Try.prog w0 = .ok (.pointer (some ad)) w0 := fun w0 => by
      simp [Instr.arrayAt, run_underlying Try.underlying57]
    go_wp2_with (go_at_call 73; refine (HDC.out _).mono ?_; rintro e w3 ⟨v3, rfl, hO3, hL3⟩; have HO3 := hid hO3; have HL3 := hid hL3; clear hO3 hL3)
    go_ret2
    rw [HA.out]
    exact ⟨v3, rfl, HO3.out.wide HL2.out.size (Nat.le_refl _), HL2.out.trans HL3.out⟩
end Go.Proofs.Ytofmmegpadojlaa
