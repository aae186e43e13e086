/- The move modulo a prime number, in the model. -/
import Derived.Test.YtdahhcigphhfdabMkI
import Derived.Deep.AppendLies
import Derived.StillTailTactics
import Derived.Deep.RegionHeld3
namespace Go.Proofs.Ytdahhcigphhfdab
open Go.RowKit

theorem Ints.news2 {w : World} {ad : Addr} {n c : Nat} {zs : List Int} (h : Ints w (.slice (some ad) n c) zs) : ∀ j u, (zs.map (Value.int .i64))[j]? = some u → w.cell? (ad.add j) = some u := by
  intro j u hj
  obtain ⟨a, cap, hv, _, hc⟩ := h
  simp only [Value.slice.injEq] at hv
  obtain ⟨rfl, _, rfl⟩ := hv
  have hlt : j < zs.length := by
    rcases Nat.lt_or_ge j zs.length with h | h
    · exact h
    · rw [List.getElem?_eq_none (by simpa using h)] at hj; cases hj
  obtain ⟨ad', e, hx⟩ := hc j hlt
  simp only [Option.some.injEq] at e
  subst e
  rw [hx]
  simp [hlt] at hj ⊢
  exact hj


set_option maxHeartbeats 400000 in
theorem l1Own2_any (ad : Addr) (n c : Nat) (zs : List Int) (w : World) (hz : zs.length = n) (hb : n ≤ 1048576) (h : Ints w (.slice (some ad) n c) zs) :
    Calls Try.prog 136 #[.slice (some ad) n c] w fun e w' => MadeInts w zs e w' := by
  obtain ⟨i0, hi, hz0, hz1, hz2⟩ := info_parts Try.infoInt
  have HN := hid (h.later (Later.alloc w (.cells #[] 3))).news2
  have hown : (w.alloc (.cells #[] 3)).ownsRow w.heap.size 3 1 (.slice (some ⟨w.heap.size, 0, none⟩) 0 0) 0 [] := by
    refine ⟨rfl, .inr ⟨w.heap.size, 0, #[], rfl, Nat.le_refl _, heap_alloc_new w _, Nat.le_refl _, by omega, by simp, by simp⟩⟩
  have HOW := hid hown
  clear hown h
  go_enter Try.func136, Try.ntmps136
  go_wp2_with (at_builtin; refine wpList_append_own_at _ (by rfl) _ _ _ (by rfl) w.heap.size 3 i0 (.int .i64 0) 1 8 Try.underlying39 hi hz0 hz1 hz2 rfl (by omega) (.slice (some ⟨w.heap.size, 0, none⟩) 0 0) 0 [] (by rfl) (by exact HOW.out) ad n c (zs.map (.int .i64)) (by rfl) (by simp [hz]) HN.out (by simp [Value.oneCell']) (by unfold maxLen; omega) (by omega) (by simp) ?_)
  intro v1 w1 hown1 hgrow _ _
  have hL : Later w w1 := (Later.alloc w (.cells #[] 3)).grown hgrow (by simp) (fun b hb => by simp [Value.ownBlock] at hb; omega)
  have HO : Hid (OwnInts w.heap.size w1.heap.size w1 v1 zs) := hid ⟨by rw [hz]; simpa using hown1, fun b hb => (hown1.lt b hb).2⟩
  clear hown1 hgrow
  go_wp2_with fail
  go_ret
  exact ⟨_, rfl, HO.out, hL⟩

theorem remT_def (u m : Int) : remT u m = (u.tmod m + m).tmod m := rfl

end Go.Proofs.Ytdahhcigphhfdab
