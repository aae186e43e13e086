/- Equations of Hurwitz: a jump, JumpAt, ClimbHurwitz (the model). -/
import Derived.Test.YtofmmegpadojlabHuU
namespace Go.Proofs.Ytofmmegpadojlab
open Go.RowKit

theorem OwnInts.storeAt {lo hi : Nat} {w : World} {g c : Nat} {zs : List Int} (h : OwnInts lo hi w (.slice (some ⟨g, 0, none⟩) zs.length c) zs) (k : Nat) (x : Int) :
    OwnInts lo hi (w.setCell ⟨g, k, none⟩ (.int .i64 x)) (.slice (some ⟨g, 0, none⟩) zs.length c) (zs.set k x) := by
  have h1 := (h.1.stored k (.int .i64 x)).1
  refine ⟨?_, h.2⟩
  rw [List.length_set, List.map_set]
  exact h1
theorem OwnInts.nothing0 (lo hi : Nat) (w : World) : OwnInts lo hi w (.slice none 0 0) [] := ⟨World.ownsRow_nil _ _ _ _, fun b hb => by simp [Value.ownBlock] at hb⟩

def jumpAns (zs : List Int) (a b i : Int) : Option (List Int) := if (givenB a b && solB zs a b) = true ∧ within 0 ((zs.length : Int) - 1) i = true then jumpL a zs i.toNat else none
end Go.Proofs.Ytofmmegpadojlab
