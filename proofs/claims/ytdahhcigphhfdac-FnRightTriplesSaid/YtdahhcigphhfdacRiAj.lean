/- Right triples up to a bound in the model: RightUpTo, CountRight. -/
import Derived.Test.YtdahhcigphhfdacRiAi
import Derived.Test.YtdahhcigphhfdacBasB
import Derived.Test.YtdahhcigphhfdacBasA
namespace Go.Proofs.Ytdahhcigphhfdac
open Go.RowKit

set_option maxHeartbeats 1000000 in
theorem specRightUpTo_any (most : Int) (w : World) : Calls Try.prog 19 #[.int .i64 most] w fun e w' => RowsAns w (upR most) e w' := by
  by_cases h : 0 ≤ most ∧ most ≤ 5000
  · have HA := hid (show upR most = some ((allR most 72).map rtL) by unfold upR; rw [if_pos h])
    have HB := hid (show within 0 5000 most = true by simp [within]; exact h)
    have HR := hid (fun w0 => riUpTo_any most h.1 h.2 w0)
    obtain ⟨L, hL⟩ : ∃ L, (allR most 72).map rtL = L := ⟨_, rfl⟩
    rw [hL] at HA HR
    clear h hL
    go_enter Try.func19, Try.ntmps19
    go_wp2_with fail
    refine (l1In_as _ _ _ _ _ HB.out).mono ?_
    rintro e w2 ⟨rfl, rfl⟩
    go_wp2_with fail
    refine (HR.out _).mono ?_
    rintro e w2 ⟨v, rfl, hown, hL⟩
    have HO := hid hown
    have HL := hid hL
    clear hown hL
    go_wp2_with fail
    go_ret2
    rw [HA.out]
    exact ⟨_, rfl, HO.out, HL.out⟩
  · have HA := hid (show upR most = none by unfold upR; rw [if_neg h])
    have HB := hid (show within 0 5000 most = false by simp [within]; omega)
    clear h
    go_enter Try.func19, Try.ntmps19
    go_wp2_with fail
    refine (l1In_as _ _ _ _ _ HB.out).mono ?_
    rintro e w2 ⟨rfl, rfl⟩
    go_wp2_with fail
    go_ret2
    rw [HA.out]
    exact ⟨_, rfl, OwnRows.noneR _ _ _, Later.refl _⟩
def cntR (most : Int) : Option Int := (upR most).map fun L => (L.length : Int)
end Go.Proofs.Ytdahhcigphhfdac
