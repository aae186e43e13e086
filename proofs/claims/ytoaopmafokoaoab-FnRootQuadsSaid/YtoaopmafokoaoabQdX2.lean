/- Four curvatures: RootsWith (the model). -/
import Derived.Test.YtoaopmafokoaoabQdX
namespace Go.Proofs.Ytoaopmafokoaoab
open Go.RowKit

def rootsAns (n : Int) : Option (List (List Int)) := if within 1 30 n = true then some (rootsN n) else none
theorem within130 {n : Int} : within 1 30 n = true ↔ 1 ≤ n ∧ n ≤ 30 := by simp [within]
set_option maxRecDepth 20000 in
set_option maxHeartbeats 2000000 in
theorem specRootsWith_any (n : Int) (w : World) :
    Calls Try.prog 44 #[.int .i64 n] w fun e w' => RowsAns w (rootsAns n) e w' := by
  cases hn : within 1 30 n
  · have HN := hid hn
    have HA := hid (show rootsAns n = none by unfold rootsAns; rw [hn]; simp)
    clear hn
    go_enter Try.func44, Try.ntmps44
    go_wp2_with fail
    refine (l1In_as _ _ _ _ _ HN.out).mono ?_
    rintro e w' ⟨rfl, rfl⟩
    go_wp2_with fail
    go_ret2
    rw [HA.out]
    exact ⟨_, rfl, OwnRows.noneH _ _ _, Later.refl _⟩
  · have HN := hid hn
    have HA := hid (show rootsAns n = some (rootsN n) by unfold rootsAns; rw [if_pos hn])
    have HB := hid (within130.1 hn)
    clear hn
    go_enter Try.func44, Try.ntmps44
    go_wp2_with fail
    refine (l1In_as _ _ _ _ _ HN.out).mono ?_
    rintro e w' ⟨rfl, rfl⟩
    go_wp2_with fail
    refine (apRoots_any n _ HB.out).mono ?_
    rintro e w2 ⟨v2, rfl, ho, hL⟩
    have HO := hid ho
    have HL := hid hL
    obtain ⟨a2, c2, rfl, _⟩ := ho.shape
    clear ho hL
    go_wp2_with fail
    go_ret2
    rw [HA.out]
    exact ⟨_, rfl, HO.out, HL.out⟩
end Go.Proofs.Ytoaopmafokoaoab
