/- Contracts of UnitMatrix in the model and in the program, and of matrixOf. -/
import Derived.Test.YthejafejmbpepaaUnit
namespace Go.Proofs.Ythejafejmbpepaa
open Go.RowKit

theorem gridOf_pure (n : Nat) (F : Nat) (caps : Array Value) (f : Nat → Nat → Int) (w : World) (hn : n ≤ 1048576)
    (eg : ∀ args w, (callFunc F args).run Try.prog w = .ok (.enter F args) w)
    (hF : ∀ i j w1, i < n → j < n → Later w w1 → Calls Try.prog F (#[.int .i64 i, .int .i64 j] ++ caps) w1 fun e w2 => e = .returned (.int .i64 (f i j)) ∧ Later w1 w2) :
    Calls Try.prog 96 #[.int .i64 n, .func (.func F) #[] caps] w fun e w' => MadeRows w (mk n f) e w' := by
  refine (gridOf_any n F caps f (fun _ w1 => Later w w1) w hn eg (Later.refl w) (fun _ w1 w2 h1 h2 => Below.trans h1 h2) (fun i j w1 hi hj hJ hs => (hF i j w1 hi hj hJ).mono fun e w2 ⟨he, hL⟩ => ⟨he, hJ.trans hL, hL.upper _⟩)).mono ?_
  rintro e w' ⟨v, rfl, ho, hL⟩
  exact ⟨v, rfl, ho, hL⟩

/-- what matrixOf makes of a grid -/
def ifGood (zss : List (List Int)) : Option (List (List Int)) := if goodM 1000000 zss then some zss else none
def PickMat (w : World) (v : Value) (zss : List (List Int)) (e : Ending) (w' : World) : Prop :=
  e = .returned (.tuple #[.agg #[if goodM 1000000 zss then v else .slice none 0 0], .bool (goodM 1000000 zss)]) ∧ Later w w'

set_option maxHeartbeats 400000 in
theorem matrixOf_any (v : Value) (zss : List (List Int)) (w : World) (h : Rows2 w v zss) :
    Calls Try.prog 52 #[v] w fun e w' => PickMat w v zss e w' := by
  obtain ⟨a, cap, rfl, hl, _⟩ := id h
  have hL := (Later.alloc w (.cells #[Value.slice none 0 0] 31)).trans (Later.alloc _ (.cells #[Value.slice a zss.length cap] 31))
  have hb0 : Box ((w.alloc (.cells #[Value.slice none 0 0] 31)).alloc (.cells #[Value.slice a zss.length cap] 31)) w.heap.size (.slice none 0 0) := ⟨by simp [go_sem], by simp [go_sem]⟩
  have hb1 : Box ((w.alloc (.cells #[Value.slice none 0 0] 31)).alloc (.cells #[Value.slice a zss.length cap] 31)) (w.heap.size + 1) (.slice a zss.length cap) := ⟨by simp [go_sem], by simp [go_sem]⟩
  have HR := hid (h.later hL)
  have HL := hid hL
  clear h hL
  go_enter Try.func52, Try.ntmps52
  go_wp2_with fail
  generalize (w.alloc (.cells #[Value.slice none 0 0] 31)).alloc (.cells #[Value.slice a zss.length cap] 31) = w1 at hb0 hb1 HR HL ⊢
  refine (implIsMatrix_any _ zss _ HR.out).mono ?_
  rintro e w2 ⟨rfl, hL2⟩
  obtain ⟨hc0, hf0⟩ := hb0.later hL2
  obtain ⟨hc1, hf1⟩ := hb1.later hL2
  have HL2 := hid (HL.out.trans hL2)
  clear hb0 hb1 hL2
  cases hg : goodM 1000000 zss
  · have HG := hid hg; clear hg
    go_wp2_with fail
    refine bodyPost_ret (v := .tuple #[.agg #[.slice none 0 0], .bool false]) (by simp [results, Try.results52, go_sem, hc0]) rfl ⟨by rw [HG.out]; rfl, HL2.out.setCell (by simp) _⟩
  · have HG := hid hg; clear hg
    go_wp2_with fail
    refine bodyPost_ret (v := .tuple #[.agg #[.slice a zss.length cap], .bool true]) (by simp [results, Try.results52, go_sem, hc0]) rfl ⟨by rw [HG.out]; rfl, HL2.out.setCell (by simp) _⟩

/-- .. of a grid that a call has made since w0. -/
theorem matrixOf_ans (w0 : World) (v : Value) (zss : List (List Int)) (w : World) (hL : Later w0 w) (h : OwnRows w0.heap.size w.heap.size w v zss) :
    Calls Try.prog 52 #[v] w fun e w' => MatAns w0 (ifGood zss) e w' := by
  refine (matrixOf_any v zss w h.rows).mono ?_
  rintro e w' ⟨rfl, hL2⟩
  have hl := hL.trans hL2
  unfold MatAns ifGood
  cases goodM 1000000 zss
  · exact ⟨.slice none 0 0, rfl, OwnRows.empty _ _ _, hl⟩
  · exact ⟨v, rfl, (h.later hL2).wide (Nat.le_refl _) hL2.size, hl⟩

def unitAns (n : Int) : Option (List (List Int)) := if 1 ≤ n ∧ n ≤ 4 then some (unitM n.toNat) else none
theorem unitAns_good (n : Nat) (h1 : 1 ≤ n) (h2 : n ≤ 4) : ifGood (unitM n) = some (unitM n) := by
  unfold ifGood
  rw [if_pos]
  have : n = 1 ∨ n = 2 ∨ n = 3 ∨ n = 4 := by omega
  rcases this with rfl | rfl | rfl | rfl <;> decide

end Go.Proofs.Ythejafejmbpepaa
