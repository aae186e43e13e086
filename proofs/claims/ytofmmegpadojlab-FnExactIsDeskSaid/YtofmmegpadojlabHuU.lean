/- Equations of Hurwitz: sorting and jumps (the model). -/
import Derived.Test.YtofmmegpadojlabHuP
import Derived.Laws.AppendOwnNone
namespace Go.Proofs.Ytofmmegpadojlab
open Go.RowKit

theorem cntGe_le (x : Int) (S : List Int) : cntGe x S ≤ S.length := by
  unfold cntGe
  induction S with
  | nil => simp
  | cons y ys ih => simp only [List.takeWhile_cons]; split <;> simp_all
theorem cntGe_lt (x : Int) (S : List Int) : ∀ j, j < cntGe x S → x ≤ S.getD j 0 := by
  unfold cntGe
  induction S with
  | nil => intro j hj; simp at hj
  | cons y ys ih =>
    intro j hj
    simp only [List.takeWhile_cons] at hj
    split at hj
    · rename_i hy
      cases j with
      | zero => simpa using hy
      | succ j => have := ih j (by simpa using hj); simpa using this
    · simp at hj
theorem cntGe_at (x : Int) (S : List Int) : cntGe x S < S.length → S.getD (cntGe x S) 0 < x := by
  unfold cntGe
  induction S with
  | nil => intro h; simp at h
  | cons y ys ih =>
    intro h
    simp only [List.takeWhile_cons] at h ⊢
    split at h
    · rename_i hy
      rw [if_pos hy]
      have := ih (by simpa using h)
      simpa using this
    · rename_i hy
      rw [if_neg hy]
      simp at hy ⊢
      omega
theorem sortD_take (zs : List Int) (k : Nat) (hk : k < zs.length) : sortD (zs.take (k + 1)) = insD (sortD (zs.take k)) zs[k] := by rw [take_snoc zs k hk, sortD_snoc]

set_option maxHeartbeats 400000 in
theorem l1OwnN_any (c : Nat) (w : World) : Calls Try.prog 108 #[.slice none 0 c] w fun e w' => MadeInts w [] e w' := by
  obtain ⟨i0, hi, hz0, hz1, hz2⟩ := info_parts Try.infoInt
  have hown : (w.alloc (.cells #[] 3)).ownsRow w.heap.size 3 1 (.slice (some ⟨w.heap.size, 0, none⟩) 0 0) 0 [] := by
    refine ⟨rfl, .inr ⟨w.heap.size, 0, #[], rfl, Nat.le_refl _, heap_alloc_new w _, Nat.le_refl _, by omega, by simp, by simp⟩⟩
  have HOW := hid hown
  clear hown
  go_enter Try.func108, Try.ntmps108
  go_wp2_with fail
  go_ret
  exact ⟨_, rfl, ⟨HOW.out, fun b hb => (HOW.out.lt b hb).2⟩, Later.alloc _ _⟩

end Go.Proofs.Ytofmmegpadojlab
