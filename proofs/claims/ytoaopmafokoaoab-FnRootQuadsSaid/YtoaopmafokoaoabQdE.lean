/- Four curvatures: IsQuad, IsRoot, DownSwap (the program). -/
import Derived.Test.YtoaopmafokoaoabQdD
namespace Go.Proofs.Ytoaopmafokoaoab
open Go.RowKit

set_option maxRecDepth 20000 in
set_option maxHeartbeats 2000000 in
theorem implIsQuad_any (v : Value) (zs : List Int) (w : World) (h : Ints w v zs) :
    Calls Try.prog 24 #[v] w fun e w' => BoolRes w (apB zs) e w' := by
  obtain ⟨p, cap, rfl, hl, _⟩ := id h
  have H := hid h
  clear h
  cases hg : apB zs
  · have HG := hid hg
    clear hg
    go_enter Try.func24, Try.ntmps24
    go_wp2_with fail
    refine (quadOf_no _ zs _ HG.out H.out).mono ?_
    rintro e w1 ⟨rfl, hL⟩
    have HL := hid (hL.trans (Later.alloc w1 (.cells #[.int .i64 0, .int .i64 0, .int .i64 0, .int .i64 0] 62)))
    clear hL
    go_wp2_with fail
    go_ret
    exact ⟨rfl, HL.out⟩
  · have HG := hid hg
    obtain ⟨a, b, c, d, rfl, hq⟩ := apB_four hg
    clear hg hq
    go_enter Try.func24, Try.ntmps24
    go_wp2_with fail
    refine (quadOf_yes _ a b c d _ HG.out H.out).mono ?_
    rintro e w1 ⟨rfl, hL⟩
    have HL := hid (hL.trans (Later.alloc w1 (.cells #[.int .i64 a, .int .i64 b, .int .i64 c, .int .i64 d] 62)))
    clear hL
    go_wp2_with fail
    go_ret
    exact ⟨rfl, HL.out⟩
set_option maxRecDepth 20000 in
set_option maxHeartbeats 2000000 in
theorem implIsRootQ_any (v : Value) (zs : List Int) (w : World) (h : Ints w v zs) :
    Calls Try.prog 20 #[v] w fun e w' => BoolAns w (isRootAns zs) e w' := by
  obtain ⟨p, cap, rfl, hl, _⟩ := id h
  have H := hid h
  clear h
  cases hg : apB zs
  · have HG := hid hg
    have HA := hid (show isRootAns zs = none by unfold isRootAns; rw [hg]; simp)
    clear hg
    go_enter Try.func20, Try.ntmps20
    go_wp2_with fail
    refine (quadOf_no _ zs _ HG.out H.out).mono ?_
    rintro e w1 ⟨rfl, hL⟩
    have HL := hid (hL.trans (Later.alloc w1 (.cells #[.int .i64 0, .int .i64 0, .int .i64 0, .int .i64 0] 62)))
    clear hL
    go_wp2_with fail
    go_ret2
    exact ⟨by rw [HA.out]; rfl, HL.out⟩
  · have HG := hid hg
    have HA := hid (show isRootAns zs = some (lastQ zs) by unfold isRootAns; rw [if_pos hg])
    obtain ⟨a, b, c, d, rfl, hq⟩ := apB_four hg
    have HQ := hid hq
    clear hg hq
    go_enter Try.func20, Try.ntmps20
    go_wp2_with fail
    refine (quadOf_yes _ a b c d _ HG.out H.out).mono ?_
    rintro e w1 ⟨rfl, hL⟩
    obtain ⟨c0, c1, c2, c3, _, _, _, _⟩ := QBox.new w1 a b c d
    have HL := hid (hL.trans (Later.alloc w1 (.cells #[.int .i64 a, .int .i64 b, .int .i64 c, .int .i64 d] 62)))
    clear hL
    go_wp2_with fail
    refine (isRootS_any a b c d _ HQ.out).mono ?_
    rintro e w2 ⟨rfl, hL2⟩
    have HL2 := hid (HL.out.trans hL2)
    clear hL2
    go_wp2_with fail
    go_ret2
    exact ⟨by rw [HA.out]; rfl, HL2.out⟩
set_option maxRecDepth 20000 in
set_option maxHeartbeats 2000000 in
theorem implDownSwap_any (v : Value) (zs : List Int) (w : World) (h : Ints w v zs) :
    Calls Try.prog 14 #[v] w fun e w' => NumAns w (downSwapAns zs) e w' := by
  obtain ⟨p, cap, rfl, hl, _⟩ := id h
  have H := hid h
  clear h
  cases hg : apB zs
  · have HG := hid hg
    have HA := hid (show downSwapAns zs = none by unfold downSwapAns; rw [hg]; simp)
    clear hg
    go_enter Try.func14, Try.ntmps14
    go_wp2_with fail
    refine (quadOf_no _ zs _ HG.out H.out).mono ?_
    rintro e w1 ⟨rfl, hL⟩
    have HL := hid (hL.trans (Later.alloc w1 (.cells #[.int .i64 0, .int .i64 0, .int .i64 0, .int .i64 0] 62)))
    clear hL
    go_wp2_with fail
    go_ret2
    exact ⟨by rw [HA.out]; rfl, HL.out⟩
  · have HG := hid hg
    obtain ⟨a, b, c, d, rfl, hq⟩ := apB_four hg
    have HQ := hid hq
    cases hlq : lastQ [a, b, c, d]
    · have HA := hid (show downSwapAns [a, b, c, d] = some (gIx [a, b, c, d] : Int) by unfold downSwapAns; rw [if_pos ⟨hg, hlq⟩])
      have HLQ := hid hlq
      clear hg hq hlq
      go_enter Try.func14, Try.ntmps14
      go_wp2_with fail
      refine (quadOf_yes _ a b c d _ HG.out H.out).mono ?_
      rintro e w1 ⟨rfl, hL⟩
      have HB := hid (QBox.new w1 a b c d)
      have HL := hid (hL.trans (Later.alloc w1 (.cells #[.int .i64 a, .int .i64 b, .int .i64 c, .int .i64 d] 62)))
      obtain ⟨c0, c1, c2, c3, _, _, _, _⟩ := HB.out
      clear hL
      go_wp2_with fail
      refine (isRootS_any a b c d _ HQ.out).mono ?_
      rintro e w2 ⟨rfl, hL2⟩
      rw [HLQ.out]
      have HL2 := hid (HL.out.trans hL2)
      replace c0 := hL2.cell c0
      replace c1 := hL2.cell c1
      replace c2 := hL2.cell c2
      replace c3 := hL2.cell c3
      clear hL2
      go_wp2_with fail
      refine (indexOfGreatest_any a b c d _).mono ?_
      rintro e w3 ⟨rfl, hL3⟩
      have HL3 := hid (HL2.out.trans hL3)
      clear hL3
      go_wp2_with fail
      go_ret2
      exact ⟨by rw [HA.out]; rfl, HL3.out⟩
    · have HA := hid (show downSwapAns [a, b, c, d] = none by unfold downSwapAns; rw [hlq]; simp)
      have HLQ := hid hlq
      clear hg hq hlq
      go_enter Try.func14, Try.ntmps14
      go_wp2_with fail
      refine (quadOf_yes _ a b c d _ HG.out H.out).mono ?_
      rintro e w1 ⟨rfl, hL⟩
      have HB := hid (QBox.new w1 a b c d)
      have HL := hid (hL.trans (Later.alloc w1 (.cells #[.int .i64 a, .int .i64 b, .int .i64 c, .int .i64 d] 62)))
      obtain ⟨c0, c1, c2, c3, _, _, _, _⟩ := HB.out
      clear hL
      go_wp2_with fail
      refine (isRootS_any a b c d _ HQ.out).mono ?_
      rintro e w2 ⟨rfl, hL2⟩
      rw [HLQ.out]
      have HL2 := hid (HL.out.trans hL2)
      clear hL2
      go_wp2_with fail
      go_ret2
      exact ⟨by rw [HA.out]; rfl, HL2.out⟩
end Go.Proofs.Ytoaopmafokoaoab
