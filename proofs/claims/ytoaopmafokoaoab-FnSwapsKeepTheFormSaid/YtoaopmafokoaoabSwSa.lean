/- What the law of swaps and forms uses. -/
import Derived.Test.YtoaopmafokoaoabCuQef
import Derived.Test.YtoaopmafokoaoabAsD
import Derived.Test.YtoaopmafokoaoabQdLb
import Derived.Test.YtoaopmafokoaoabQdMy
import Derived.Test.YtoaopmafokoaoabQdH
import Derived.Test.YtoaopmafokoaoabQdE
import Derived.Test.YtoaopmafokoaoabQdJ
namespace Go.Proofs.Ytoaopmafokoaoab
open Go.RowKit

set_option maxRecDepth 20000 in
set_option maxHeartbeats 4000000 in
theorem drawSwapMatrix_any (v : Value) (bs : List Int) (w : World) (h : BytesR w v bs) :
    Calls Try.prog 30 #[v] w fun e w' => OneNumG w e w' := by
  have HC := hid (fun ty => Cur.newG w v bs h ty)
  obtain ⟨a, cap, rfl, _⟩ := id h
  clear h
  go_enter Try.func30, Try.ntmps30
  go_wp2_with fail
  refine (curAmong_any w _ w.heap.size _ bs 0 (w.heap.size + 1) 6 [0, 1, 2, 3, 4, -1] (by omega) (by simp) (by simp) (by omega) ((HC.out _).keep (Later.alloc _ _)) ?hl).mono ?_
  case hl =>
    intro i hi
    have h6 : i = 0 ∨ i = 1 ∨ i = 2 ∨ i = 3 ∨ i = 4 ∨ i = 5 := by simp at hi; omega
    rcases h6 with rfl | rfl | rfl | rfl | rfl | rfl <;> simp [go_sem]
  rintro e w1 ⟨k, rfl, _, hC, _⟩
  have HL := hid hC.later
  clear hC HC
  go_wp2_with fail
  go_ret
  exact ⟨k, rfl, HL.out⟩
theorem box_newS (w : World) (v : Value) (t : TypeId) : (w.alloc (.cells #[v] t)).cell? ⟨w.heap.size, 0, none⟩ = some v := by simp [go_sem]
theorem drewLaterS {fn : FuncId} {args : Array Value} {w base : World} {r : Ending} (h : Calls Try.prog fn args w fun e w' => e = r ∧ ∃ n, w' = w.drewN n) (hb : Later base w) : Calls Try.prog fn args w fun e w' => e = r ∧ Later base w' :=
  h.mono fun e w' ⟨he, n, hw⟩ => ⟨he, by rw [hw]; exact hb.trans (Later.drewN _ _)⟩
theorem dMatrix_same (u v : Value) (xs : List (List Int)) (w : World) (hx : Rows2 w u xs) (hy : Rows2 w v xs) :
    Calls Try.prog 28 #[.agg #[u], .agg #[v]] w fun e w' => e = .returned (.bool true) ∧ Later w w' := by
  have H := hid (fun w' (h : Later w w') => dLists_same u v xs w' (hx.later h) (hy.later h))
  clear hx hy
  go_enter Try.func28, Try.ntmps28
  go_wp2_with fail
  refine (drewLaterS (H.out _ ((Later.alloc w _).trans (Later.alloc _ _))) ((Later.alloc w _).trans (Later.alloc _ _))).mono ?_
  rintro e w1 ⟨rfl, hL⟩
  have HL := hid hL
  clear hL
  go_wp2_with fail
  go_ret
  exact ⟨rfl, HL.out⟩
theorem made_asS {w0 : World} {fn : FuncId} {args : Array Value} {L : List (List Int)} (h : Calls Try.prog fn args w0 fun e w' => MadeMat w0 L e w') :
    Calls Try.prog fn args w0 fun e w' => ∃ a c, e = .returned (.agg #[.slice a L.length c]) ∧ RG w' a c L ∧ Later w0 w' :=
  h.mono fun e w' ⟨v, he, ho, hl⟩ => by
    obtain ⟨a, c, rfl, _⟩ := ho.shape
    exact ⟨a, c, he, ho.rg, hl⟩
theorem swap_quadS {zs : List Int} {i : Int} {S : List Int} (h : swapAns zs i = some S) : apB zs = true := by
  rcases swap_law zs i with h1 | ⟨S', h1, h2, h3, _⟩
  · rw [h] at h1; cases h1
  · exact h2
theorem smAns_is (i : Int) : (smAns i = none) ∨ ∃ k : Nat, k < 4 ∧ i = (k : Int) ∧ smAns i = some (mk 4 (smF k)) := by
  unfold smAns
  cases h : within 0 3 i
  · left; simp
  · have := within03.1 h
    refine .inr ⟨i.toNat, by omega, by omega, by simp⟩
end Go.Proofs.Ytoaopmafokoaoab
