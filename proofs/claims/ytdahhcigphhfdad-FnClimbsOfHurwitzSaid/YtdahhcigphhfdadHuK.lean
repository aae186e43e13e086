/- Equations of Hurwitz: IsHurwitz (the program). -/
import Derived.Test.YtdahhcigphhfdadHuJ
namespace Go.Proofs.Ytdahhcigphhfdad
open Go.RowKit

theorem Sol.good {zs : List Int} {a b : Int} (h : (givenB a b && solB zs a b) = true) : Sol zs a b := by
  rw [Bool.and_eq_true] at h; exact Sol.of h.1 h.2
theorem Sol.q4 {zs : List Int} {a b : Int} (h : Sol zs a b) : ∃ x y z t, zs = qL x y z t ∧ Q4 x y z t := q4_of h.in5 h.hl

set_option maxRecDepth 20000 in
set_option maxHeartbeats 2000000 in
theorem implIsHurwitz_any (v : Value) (zs : List Int) (a b : Int) (w : World) (h : Ints w v zs) :
    Calls Try.prog 39 #[v, .int .i64 a, .int .i64 b] w fun e w' => BoolAns w (isHuAns zs a b) e w' := by
  obtain ⟨p, cap, rfl, hl, _⟩ := id h
  have H := hid h
  clear h
  cases hs : (givenB a b && solB zs a b)
  · have HS := hid hs
    cases hg : givenB a b
    · have HA := hid (show isHuAns zs a b = none by unfold isHuAns; rw [hg]; rfl)
      rcases givenB_false hg with h1 | ⟨h1, h2⟩
      · have H1 := hid h1
        clear hg h1 hs
        go_enter Try.func39, Try.ntmps39
        go_wp2_with fail
        refine (solutionOf_no _ zs a b _ HS.out H.out).mono ?_
        rintro e w1 ⟨rfl, hL⟩
        have HL := hid (hL.trans (Later.alloc w1 (.cells #[.int .i64 0, .int .i64 0, .int .i64 0, .int .i64 0] 49)))
        clear hL
        go_wp2_with fail
        refine (isFactor_as _ _ _ H1.out).mono ?_
        rintro e w' ⟨rfl, rfl⟩
        go_wp2_with fail
        go_ret2
        exact ⟨by rw [HA.out]; rfl, HL.out⟩
      · have H1 := hid h1
        have H2 := hid h2
        clear hg h1 h2 hs
        go_enter Try.func39, Try.ntmps39
        go_wp2_with fail
        refine (solutionOf_no _ zs a b _ HS.out H.out).mono ?_
        rintro e w1 ⟨rfl, hL⟩
        have HL := hid (hL.trans (Later.alloc w1 (.cells #[.int .i64 0, .int .i64 0, .int .i64 0, .int .i64 0] 49)))
        clear hL
        go_wp2_with fail
        refine (isFactor_as _ _ _ H1.out).mono ?_
        rintro e w' ⟨rfl, rfl⟩
        go_wp2_with fail
        refine (isRest_as _ _ _ H2.out).mono ?_
        rintro e w' ⟨rfl, rfl⟩
        go_wp2_with fail
        go_ret2
        exact ⟨by rw [HA.out]; rfl, HL.out⟩
    · have hso : solB zs a b = false := by rw [hg, Bool.true_and] at hs; exact hs
      have HA := hid (show isHuAns zs a b = some false by unfold isHuAns; rw [hg, hso]; rfl)
      have H1 := hid (givenB_true hg).1
      have H2 := hid (givenB_true hg).2
      clear hg hs hso
      go_enter Try.func39, Try.ntmps39
      go_wp2_with fail
      refine (solutionOf_no _ zs a b _ HS.out H.out).mono ?_
      rintro e w1 ⟨rfl, hL⟩
      have HL := hid (hL.trans (Later.alloc w1 (.cells #[.int .i64 0, .int .i64 0, .int .i64 0, .int .i64 0] 49)))
      clear hL
      go_wp2_with fail
      refine (isFactor_as _ _ _ H1.out).mono ?_
      rintro e w' ⟨rfl, rfl⟩
      go_wp2_with fail
      refine (isRest_as _ _ _ H2.out).mono ?_
      rintro e w' ⟨rfl, rfl⟩
      go_wp2_with fail
      go_ret2
      exact ⟨by rw [HA.out]; rfl, HL.out⟩
  · have hS := Sol.good hs
    have HA := hid (show isHuAns zs a b = some true by unfold isHuAns; rw [hS.given, hS.sol]; rfl)
    have H1 := hid (givenB_true hS.given).1
    have H2 := hid (givenB_true hS.given).2
    have HS := hid hS
    obtain ⟨x, y, z, t, rfl, hq⟩ := hS.q4
    have HQ := hid hq
    clear hs hS hq
    go_enter Try.func39, Try.ntmps39
    go_wp2_with fail
    refine (solutionOf_yes _ x y z t a b _ HS.out HQ.out H.out).mono ?_
    rintro e w1 ⟨rfl, hL⟩
    have HL := hid hL
    clear hL
    go_wp2_with fail
    refine (isFactor_as _ _ _ H1.out).mono ?_
    rintro e w' ⟨rfl, rfl⟩
    go_wp2_with fail
    refine (isRest_as _ _ _ H2.out).mono ?_
    rintro e w' ⟨rfl, rfl⟩
    go_wp2_with fail
    go_ret2
    exact ⟨by rw [HA.out]; rfl, HL.out.trans (Later.alloc _ _)⟩
end Go.Proofs.Ytdahhcigphhfdad
