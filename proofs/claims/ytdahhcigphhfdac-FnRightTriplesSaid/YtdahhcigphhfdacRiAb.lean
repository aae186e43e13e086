/- All right triples up to a bound: the comparison in the program. -/
import Derived.Test.YtdahhcigphhfdacRiAa
import Derived.Test.YtdahhcigphhfdacRiV
import Derived.Test.YtdahhcigphhfdacCmpL
import Derived.Deep.RegionHeld3
namespace Go.Proofs.Ytdahhcigphhfdac
open Go.RowKit

def orI (a b : Int) : Int := if a = 0 then b else a
def cmpRt (p q : Rt) : Int := orI (cmpI (rtZ p) (rtZ q)) (cmpI (rtX p) (rtX q))
set_option maxHeartbeats 1000000 in
theorem cmpOr2_any (a b : Int) (v : Value) (w : World) (h : Ints w v [a, b]) : Calls Try.prog 115 #[v] w fun e w' => e = .returned (.int .i64 (orI a b)) ∧ w = w' := by
  obtain ⟨p, cap, rfl, _, hc⟩ := h
  have HC := hid hc
  clear hc
  go_enter Try.func115, Try.ntmps115
  go_wp2_with fail
  go_loop [8] (fun i => ∃ k : Nat, k ≤ 2 ∧ i = .int .i64 k ∧ (0 < k → a = 0) ∧ (1 < k → b = 0)) (fun i => 2 - (intOf i).toNat)
  case atStart => exact ⟨0, by omega, rfl, fun h => by omega, fun h => by omega⟩
  case round =>
    obtain ⟨k, hk, rfl, z0, z1⟩ := hrel
    have hk3 : k = 0 ∨ k = 1 ∨ k = 2 := by omega
    rcases hk3 with rfl | rfl | rfl
    · obtain ⟨ad, rfl, hcell⟩ := HC.out 0 (by simp)
      have hcell0 : w.cell? ad = some (.int .i64 a) := by simpa [Addr.add] using hcell
      by_cases ha : a = 0
      · have hb0 : (a != 0) = false := by simp [ha]
        have HA := hid ha
        clear ha hcell z0 z1
        go_wp2_with fail
        go_round
        case rel => exact ⟨1, by omega, by go_num, fun _ => HA.out, fun h => by omega⟩
        case measure => simp [intOf]
      · have hb0 : (a != 0) = true := by simp [ha]
        have HA := hid (show orI a b = a by unfold orI; rw [if_neg ha])
        clear ha hcell z0 z1
        go_wp2_with fail
        go_ret
        exact ⟨by rw [HA.out]; rfl, rfl⟩
    · obtain ⟨ad, rfl, hcell⟩ := HC.out 1 (by simp)
      have hcell0 : w.cell? ⟨ad.block, ad.off + 1, none⟩ = some (.int .i64 b) := by simpa [Addr.add] using hcell
      have HA := hid (show orI a b = b by unfold orI; rw [if_pos (z0 (by omega))])
      have HZ := hid (z0 (by omega))
      by_cases hb : b = 0
      · have hb0 : (b != 0) = false := by simp [hb]
        have HB := hid hb
        clear hb hcell z0 z1
        go_wp2_with fail
        go_round
        case rel => exact ⟨2, by omega, by go_num, fun _ => HZ.out, fun _ => HB.out⟩
        case measure => simp [intOf]
      · have hb0 : (b != 0) = true := by simp [hb]
        clear hb hcell z0 z1
        go_wp2_with fail
        go_ret
        exact ⟨by rw [HA.out]; rfl, rfl⟩
    · have HA := hid (show orI a b = 0 by unfold orI; rw [if_pos (z0 (by omega)), z1 (by omega)])
      clear z0 z1
      go_wp2_with fail
      go_ret
      exact ⟨by rw [HA.out]; rfl, rfl⟩
end Go.Proofs.Ytdahhcigphhfdac
