/- Four curvatures: IsQuad, IsRoot, DownSwap (the program). -/
import Derived.Test.YtofmmegpadojlabQdD
namespace Go.Proofs.Ytofmmegpadojlab
open Go.RowKit

set_option maxRecDepth 20000 in
set_option maxHeartbeats 2000000 in
theorem implIsQuad_any (v : Value) (zs : List Int) (w : World) (h : Ints w v zs) :
    Calls Try.prog 47 #[v] w fun e w' => BoolRes w (apB zs) e w' := by
  obtain ⟨p, cap, rfl, hl, _⟩ := id h
  have H := hid h
  clear h
  cases hg : apB zs
  · have HG := hid hg
    clear hg
    go_enter Try.func47, Try.ntmps47
    go_wp2_with fail
    refine (quadOf_no _ zs _ HG.out H.out).mono ?_
    rintro e w1 ⟨rfl, hL⟩
    have HL := hid (hL.trans (Later.alloc w1 (.cells #[.int .i64 0, .int .i64 0, .int .i64 0, .int .i64 0] 108)))
    clear hL
    go_wp2_with fail
    go_ret
    exact ⟨rfl, HL.out⟩
  · have HG := hid hg
    obtain ⟨a, b, c, d, rfl, hq⟩ := apB_four hg
    clear hg hq
    go_enter Try.func47, Try.ntmps47
    go_wp2_with fail
    refine (quadOf_yes _ a b c d _ HG.out H.out).mono ?_
    rintro e w1 ⟨rfl, hL⟩
    have HL := hid (hL.trans (Later.alloc w1 (.cells #[.int .i64 a, .int .i64 b, .int .i64 c, .int .i64 d] 108)))
    clear hL
    go_wp2_with fail
    go_ret
    exact ⟨rfl, HL.out⟩
end Go.Proofs.Ytofmmegpadojlab
