/- Right triples up to a bound in the program: CountRight. -/
import Derived.Test.YtdahhcigphhfdacRiAg
import Derived.Test.YtdahhcigphhfdacRiAj
namespace Go.Proofs.Ytdahhcigphhfdac
open Go.RowKit

set_option maxHeartbeats 1000000 in
theorem implCountRight_any (most : Int) (w : World) : Calls Try.prog 20 #[.int .i64 most] w fun e w' => NumAns w (cntR most) e w' := by
  have HR := hid (fun w0 => implRightUpTo_any most w0)
  obtain ⟨o, ho⟩ : ∃ o, upR most = o := ⟨_, rfl⟩
  have HA := hid (show cntR most = o.map fun L => (L.length : Int) by unfold cntR; rw [ho])
  rw [ho] at HR
  rw [HA.out]
  clear ho HA
  cases o with
  | none =>
    go_enter Try.func20, Try.ntmps20
    go_wp2_with fail
    refine (HR.out _).mono ?_
    rintro e w2 ⟨v, rfl, hown, hL⟩
    obtain ⟨a, c, rfl, _⟩ := hown.shape
    have HL := hid hL
    clear hown hL
    go_wp2_with fail
    go_ret2
    exact ⟨rfl, HL.out⟩
  | some L =>
    go_enter Try.func20, Try.ntmps20
    go_wp2_with fail
    refine (HR.out _).mono ?_
    rintro e w2 ⟨v, rfl, hown, hL⟩
    obtain ⟨a, c, rfl, _⟩ := hown.shape
    have HL := hid hL
    clear hown hL
    go_wp2_with fail
    go_ret2
    exact ⟨rfl, HL.out⟩
end Go.Proofs.Ytdahhcigphhfdac
