/- Contracts of MarkovDown and MarkovMove. -/
import Derived.Test.YtmmapfdmdliifabDoorMkN
namespace Go.Proofs.YtmmapfdmdliifabDoor
open Go.RowKit

def downAns (zs : List Int) : Option (List Int) := if mkGoodW zs = true ∧ zs.getD 2 0 ≠ 1 then some (ordL (zs.getD 0 0) (zs.getD 1 0) (3 * zs.getD 0 0 * zs.getD 1 0 - zs.getD 2 0)) else none
def moveOpt (x y z : Int) (i : Nat) : Option (List Int) := if 1000000000 < other3 x y z i then none else some (moveL x y z i)
def moveAns (zs : List Int) (i : Int) : Option (List Int) := if mkGoodW zs = true ∧ (0 ≤ i ∧ i ≤ 2) then moveOpt (zs.getD 0 0) (zs.getD 1 0) (zs.getD 2 0) i.toNat else none
theorem ordL_rot0 (x y z : Int) : ordL y z x = ordL x y z := by rw [← ordL_swap2, ordL_swap1]
theorem ordL_rot1 (x y z : Int) : ordL z x y = ordL x y z := by rw [ordL_swap1, ordL_swap2]
theorem areCnt_of {x y z : Int} (hx : 1 ≤ x ∧ x ≤ 1000000000) (hy : 1 ≤ y ∧ y ≤ 1000000000) (hz : 1 ≤ z ∧ z ≤ 1000000000) : areCnt [x, y, z] = true := by
  simp [areCnt, within, hx.1, hx.2, hy.1, hy.2, hz.1, hz.2]
theorem Cnt0.of {x : Int} (h : 1 ≤ x ∧ x ≤ 1000000000) : Cnt0 x := ⟨by omega, h.2⟩
theorem OwnInts.nothing (lo hi : Nat) (w : World) : OwnInts lo hi w (.slice none 0 0) [] := ⟨World.ownsRow_nil _ _ _ _, fun b hb => by simp [Value.ownBlock] at hb⟩
theorem arrayAt3 (ad : Addr) (cap : Nat) : ∀ w, (Instr.arrayAt 40 (.slice (some ad) 3 cap)).run Tryd.prog w = .ok (.pointer (some ad)) w := fun w => run_arrayAt w _ _ _ _ _ _ Tryd.underlying40 (by omega)

end Go.Proofs.YtmmapfdmdliifabDoor
