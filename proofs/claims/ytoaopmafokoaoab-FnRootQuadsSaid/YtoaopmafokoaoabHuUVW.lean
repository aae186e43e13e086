/- HuU, HuV, HuW: in one text. -/
import Derived.Test.YtoaopmafokoaoabHuOP
import Derived.Laws.AppendOwnNone
namespace Go.Proofs.Ytoaopmafokoaoab
open Go.RowKit


theorem cntGe_le (x : Int) (S : List Int) : cntGe x S ≤ S.length := by
  unfold cntGe
  induction S with
  | nil => simp
  | cons y ys ih => simp only [List.takeWhile_cons]; split <;> simp_all
theorem cntGe_lt (x : Int) (S : List Int) : ∀ j, j < cntGe x S → x ≤ S.getD j 0 := by
  unfold cntGe
  induction S with
  | nil => intro j hj; simp at hj
  | cons y ys ih =>
    intro j hj
    simp only [List.takeWhile_cons] at hj
    split at hj
    · rename_i hy
      cases j with
      | zero => simpa using hy
      | succ j => have := ih j (by simpa using hj); simpa using this
    · simp at hj
theorem cntGe_at (x : Int) (S : List Int) : cntGe x S < S.length → S.getD (cntGe x S) 0 < x := by
  unfold cntGe
  induction S with
  | nil => intro h; simp at h
  | cons y ys ih =>
    intro h
    simp only [List.takeWhile_cons] at h ⊢
    split at h
    · rename_i hy
      rw [if_pos hy]
      have := ih (by simpa using h)
      simpa using this
    · rename_i hy
      rw [if_neg hy]
      simp at hy ⊢
      omega
theorem sortD_take (zs : List Int) (k : Nat) (hk : k < zs.length) : sortD (zs.take (k + 1)) = insD (sortD (zs.take k)) zs[k] := by rw [take_snoc zs k hk, sortD_snoc]

set_option maxHeartbeats 400000 in
theorem l1OwnN_any (c : Nat) (w : World) : Calls Try.prog 83 #[.slice none 0 c] w fun e w' => MadeInts w [] e w' := by
  obtain ⟨i0, hi, hz0, hz1, hz2⟩ := info_parts Try.infoInt
  have hown : (w.alloc (.cells #[] 3)).ownsRow w.heap.size 3 1 (.slice (some ⟨w.heap.size, 0, none⟩) 0 0) 0 [] := by
    refine ⟨rfl, .inr ⟨w.heap.size, 0, #[], rfl, Nat.le_refl _, heap_alloc_new w _, Nat.le_refl _, by omega, by simp, by simp⟩⟩
  have HOW := hid hown
  clear hown
  go_enter Try.func83, Try.ntmps83
  go_wp2_with fail
  go_ret
  exact ⟨_, rfl, ⟨HOW.out, fun b hb => (HOW.out.lt b hb).2⟩, Later.alloc _ _⟩

theorem OwnInts.storeAt {lo hi : Nat} {w : World} {g c : Nat} {zs : List Int} (h : OwnInts lo hi w (.slice (some ⟨g, 0, none⟩) zs.length c) zs) (k : Nat) (x : Int) :
    OwnInts lo hi (w.setCell ⟨g, k, none⟩ (.int .i64 x)) (.slice (some ⟨g, 0, none⟩) zs.length c) (zs.set k x) := by
  have h1 := (h.1.stored k (.int .i64 x)).1
  refine ⟨?_, h.2⟩
  rw [List.length_set, List.map_set]
  exact h1
theorem OwnInts.nothing0 (lo hi : Nat) (w : World) : OwnInts lo hi w (.slice none 0 0) [] := ⟨World.ownsRow_nil _ _ _ _, fun b hb => by simp [Value.ownBlock] at hb⟩

def jumpAns (zs : List Int) (a b i : Int) : Option (List Int) := if (givenB a b && solB zs a b) = true ∧ within 0 ((zs.length : Int) - 1) i = true then jumpL a zs i.toNat else none
def climbL (a : Int) : List Int → List Int → Option (List Int)
  | zs, [] => some zs
  | zs, i :: is => match jumpL a zs i.toNat with
    | none => none
    | some ys => climbL a ys is
def wordB (word : List Int) (n : Nat) : Bool := decide (word.length ≤ 40) && word.all (within 0 ((n : Int) - 1))
def climbAns (zs : List Int) (a b : Int) (word : List Int) : Option (List Int) := if (givenB a b && solB zs a b) = true ∧ wordB word zs.length = true then climbL a zs word else none
theorem climbL_none {a : Int} {zs : List Int} {i : Int} {is : List Int} (h : jumpL a zs i.toNat = none) : climbL a zs (i :: is) = none := by simp [climbL, h]
theorem climbL_some {a : Int} {zs ys : List Int} {i : Int} {is : List Int} (h : jumpL a zs i.toNat = some ys) : climbL a zs (i :: is) = climbL a ys is := by simp [climbL, h]
theorem all_at {p : Int → Bool} {zs : List Int} (h : zs.all p = true) (k : Nat) (hk : k < zs.length) : p zs[k] = true := List.all_eq_true.1 h _ (List.getElem_mem hk)
theorem drop_consW (zs : List Int) (k : Nat) (h : k < zs.length) : zs.drop k = zs[k] :: zs.drop (k + 1) := List.drop_eq_getElem_cons h

end Go.Proofs.Ytoaopmafokoaoab
