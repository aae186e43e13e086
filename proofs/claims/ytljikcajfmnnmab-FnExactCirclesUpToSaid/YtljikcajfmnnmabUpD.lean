/- CgA: in one text. -/
import Derived.Test.YtljikcajfmnnmabUpQb
namespace Go.Proofs.Ytljikcajfmnnmab
open Go.RowKit


/-- the least of the first k numbers, the first one taken in -/
def mnTo (zs : List Int) : Nat → Int
  | 0 => zs.getD 0 0
  | k + 1 => if zs.getD k 0 < mnTo zs k then zs.getD k 0 else mnTo zs k
def insideB (zs : List Int) : Bool := apB zs && (lastQ zs && decide (mnTo zs 4 < 0))
set_option maxRecDepth 20000 in
set_option maxHeartbeats 2000000 in
theorem minI_any (v : Value) (zs : List Int) (w : World) (h0 : 0 < zs.length) (h : Ints w v zs) :
    Calls Try.prog 70 #[v] w fun e w' => e = .returned (.int .i64 (mnTo zs zs.length)) ∧ w = w' := by
  obtain ⟨p, cap, rfl, hl, hc⟩ := h
  obtain ⟨ad0, rfl, hcell0⟩ := hc 0 h0
  rw [show ad0.add 0 = ad0 by simp [Addr.add]] at hcell0
  have HC := hid hc
  have hl1 : (1 : Int) ≤ (zs.length : Int) := by omega
  have HG := hid (show mnTo zs 1 = zs.getD 0 0 by simp [mnTo])
  obtain ⟨z0, hz0⟩ : ∃ z, zs.getD 0 0 = z := ⟨_, rfl⟩
  rw [hz0] at hcell0 HG
  clear hc hz0
  go_enter Try.func70, Try.ntmps70
  go_wp2_with fail
  go_loop [3, 4] (fun m i => ∃ k : Nat, 1 ≤ k ∧ k ≤ zs.length ∧ i = .int .i64 k ∧ m = .int .i64 (mnTo zs k)) (fun _ i => zs.length - (intOf i).toNat)
  case atStart => exact ⟨1, by omega, by omega, rfl, by rw [HG.out]⟩
  case round =>
    obtain ⟨k, hk1, hk, rfl, rfl⟩ := hrel
    obtain ⟨m, hm⟩ : ∃ m, mnTo zs k = m := ⟨_, rfl⟩
    rw [hm]
    have HM := hid hm
    clear hm
    by_cases hlt : k < zs.length
    · obtain ⟨ad, e1, hcell⟩ := HC.out k hlt
      obtain rfl : ad0 = ad := by simpa using e1
      clear e1
      obtain ⟨x, hx⟩ : ∃ x, zs.getD k 0 = x := ⟨_, rfl⟩
      have HX := hid hx
      rw [hx] at hcell
      clear hx
      have HN : Hid (mnTo zs (k + 1) = if x < m then x else m) := hid (by unfold mnTo; rw [HM.out, HX.out])
      obtain ⟨j, rfl⟩ : ∃ j, k = j + 1 := ⟨k - 1, by omega⟩
      rw [add_at'] at hcell
      by_cases hgt : x < m
      · have HN2 := hid (HN.out.trans (if_pos hgt))
        clear HN
        go_wp2_with fail
        go_round
        case rel => exact ⟨j + 2, by omega, by omega, by go_num, by rw [HN2.out]⟩
        case measure => simp [intOf]; omega
      · have HN2 := hid (HN.out.trans (if_neg hgt))
        clear HN
        go_wp2_with fail
        go_round
        case rel => exact ⟨j + 2, by omega, by omega, by go_num, by rw [HN2.out]⟩
        case measure => simp [intOf]; omega
    · obtain rfl : k = zs.length := by omega
      go_wp2_with fail
      go_ret
      exact ⟨ret_int HM.out.symm, rfl⟩

set_option maxRecDepth 20000 in
set_option maxHeartbeats 2000000 in
theorem isRootInside_any (v : Value) (zs : List Int) (w : World) (h : Ints w v zs) :
    Calls Try.prog 57 #[v] w fun e w' => BoolRes w (insideB zs) e w' := by
  obtain ⟨p, cap, rfl, hl, _⟩ := id h
  have H := hid h
  clear h
  cases hg : apB zs
  · have HG := hid hg
    have HA := hid (show insideB zs = false by unfold insideB; rw [hg]; rfl)
    rw [HA.out]
    clear hg HA
    go_enter Try.func57, Try.ntmps57
    go_wp2_with fail
    refine (quadOf_no _ zs _ HG.out H.out).mono ?_
    rintro e w1 ⟨rfl, hL⟩
    have HL := hid (hL.trans (Later.alloc w1 (.cells #[.int .i64 0, .int .i64 0, .int .i64 0, .int .i64 0] 80)))
    clear hL
    go_wp2_with fail
    go_ret
    exact ⟨rfl, HL.out⟩
  · have HG := hid hg
    obtain ⟨a, b, c, d, rfl, hq⟩ := apB_four hg
    have HQ := hid hq
    have H0 := hid (show 0 < ([a, b, c, d] : List Int).length by simp)
    cases hr : lastQ [a, b, c, d]
    · have HA := hid (show insideB [a, b, c, d] = false by unfold insideB; rw [hg, hr]; rfl)
      have HR := hid (fun w => isRootS_any a b c d w hq)
      rw [hr] at HR
      rw [HA.out]
      clear hg hq hr HA
      go_enter Try.func57, Try.ntmps57
      go_wp2_with fail
      refine (quadOf_yes _ a b c d _ HG.out H.out).mono ?_
      rintro e w1 ⟨rfl, hL⟩
      obtain ⟨c0, c1, c2, c3, _, _, _, _⟩ := QBox.new w1 a b c d
      have HL := hid (hL.trans (Later.alloc w1 (.cells #[.int .i64 a, .int .i64 b, .int .i64 c, .int .i64 d] 80)))
      clear hL
      go_wp2_with fail
      refine (HR.out _).mono ?_
      rintro e w2 ⟨rfl, hL2⟩
      have HL2 := hid (HL.out.trans hL2)
      clear hL2
      go_wp2_with fail
      go_ret
      exact ⟨rfl, HL2.out⟩
    · obtain ⟨m, hm⟩ : ∃ m, mnTo [a, b, c, d] 4 = m := ⟨_, rfl⟩
      have HA := hid (show insideB [a, b, c, d] = decide (m < 0) by unfold insideB; rw [hg, hr, hm]; rfl)
      have HR := hid (fun w => isRootS_any a b c d w hq)
      rw [hr] at HR
      have HM := hid (fun v w h => minI_any v [a, b, c, d] w (by simp) h)
      rw [show ([a, b, c, d] : List Int).length = 4 from rfl, hm] at HM
      rw [HA.out]
      clear hg hq hr HA hm
      go_enter Try.func57, Try.ntmps57
      go_wp2_with fail
      refine (quadOf_yes _ a b c d _ HG.out H.out).mono ?_
      rintro e w1 ⟨rfl, hL⟩
      obtain ⟨c0, c1, c2, c3, _, _, _, _⟩ := QBox.new w1 a b c d
      have HL := hid (hL.trans (Later.alloc w1 (.cells #[.int .i64 a, .int .i64 b, .int .i64 c, .int .i64 d] 80)))
      clear hL
      go_wp2_with fail
      refine (HR.out _).mono ?_
      rintro e w2 ⟨rfl, hL2⟩
      have HL2 := hid (HL.out.trans hL2)
      clear hL2
      go_wp2_with fail
      refine (HM.out _ _ (H.out.later HL2.out)).mono ?_
      rintro e w3 ⟨rfl, rfl⟩
      go_wp2_with fail
      go_ret
      exact ⟨rfl, HL2.out⟩
end Go.Proofs.Ytljikcajfmnnmab
