/- Contracts of UnitMatrix in the model and in the program, and of matrixOf. -/
import Derived.Test.YtkpnckcfoigceaaUnit
namespace Go.Proofs.Ytkpnckcfoigceaa
open Go.RowKit

theorem gridOf_pure (n : Nat) (F : Nat) (caps : Array Value) (f : Nat → Nat → Int) (w : World) (hn : n ≤ 1048576)
    (eg : ∀ args w, (callFunc F args).run Try.prog w = .ok (.enter F args) w)
    (hF : ∀ i j w1, i < n → j < n → Later w w1 → Calls Try.prog F (#[.int .i64 i, .int .i64 j] ++ caps) w1 fun e w2 => e = .returned (.int .i64 (f i j)) ∧ Later w1 w2) :
    Calls Try.prog 51 #[.int .i64 n, .func (.func F) #[] caps] w fun e w' => MadeRows w (mk n f) e w' := by
  refine (gridOf_any n F caps f (fun _ w1 => Later w w1) w hn eg (Later.refl w) (fun _ w1 w2 h1 h2 => Below.trans h1 h2) (fun i j w1 hi hj hJ hs => (hF i j w1 hi hj hJ).mono fun e w2 ⟨he, hL⟩ => ⟨he, hJ.trans hL, hL.upper _⟩)).mono ?_
  rintro e w' ⟨v, rfl, ho, hL⟩
  exact ⟨v, rfl, ho, hL⟩

/-- what matrixOf makes of a grid -/
def ifGood (zss : List (List Int)) : Option (List (List Int)) := if goodM 1000000 zss then some zss else none
def PickMat (w : World) (v : Value) (zss : List (List Int)) (e : Ending) (w' : World) : Prop :=
  e = .returned (.tuple #[.agg #[if goodM 1000000 zss then v else .slice none 0 0], .bool (goodM 1000000 zss)]) ∧ Later w w'

set_option maxHeartbeats 400000 in
theorem matrixOf_any (v : Value) (zss : List (List Int)) (w : World) (h : Rows2 w v zss) :
    Calls Try.prog 50 #[v] w fun e w' => PickMat w v zss e w' := by
  obtain ⟨a, cap, rfl, hl, _⟩ := id h
  have hL := (Later.alloc w (.cells #[Value.slice none 0 0] 27)).trans (Later.alloc _ (.cells #[Value.slice a zss.length cap] 27))
  have hb0 : Box ((w.alloc (.cells #[Value.slice none 0 0] 27)).alloc (.cells #[Value.slice a zss.length cap] 27)) w.heap.size (.slice none 0 0) := ⟨by simp [go_sem], by simp [go_sem]⟩
  have hb1 : Box ((w.alloc (.cells #[Value.slice none 0 0] 27)).alloc (.cells #[Value.slice a zss.length cap] 27)) (w.heap.size + 1) (.slice a zss.length cap) := ⟨by simp [go_sem], by simp [go_sem]⟩
  have HR := hid (h.later hL)
  have HL := hid hL
  clear h hL
  go_enter Try.func50, Try.ntmps50
  go_wp2_with fail
  generalize (w.alloc (.cells #[Value.slice none 0 0] 27)).alloc (.cells #[Value.slice a zss.length cap] 27) = w1 at hb0 hb1 HR HL ⊢
  refine (implIsMatrix_any _ zss _ HR.out).mono ?_
  rintro e w2 ⟨rfl, hL2⟩
  obtain ⟨hc0, hf0⟩ := hb0.later hL2
  obtain ⟨hc1, hf1⟩ := hb1.later hL2
  have HL2 := hid (HL.out.trans hL2)
  clear hb0 hb1 hL2
  cases hg : goodM 1000000 zss
  · have HG := hid hg; clear hg
    go_wp2_with fail
    refine bodyPost_ret (v := .tuple #[.agg #[.slice none 0 0], .bool false]) (by simp [results, Try.results50, go_sem, hc0]) rfl ⟨by rw [HG.out]; rfl, HL2.out.setCell (by simp) _⟩
  · have HG := hid hg; clear hg
    go_wp2_with fail
    refine bodyPost_ret (v := .tuple #[.agg #[.slice a zss.length cap], .bool true]) (by simp [results, Try.results50, go_sem, hc0]) rfl ⟨by rw [HG.out]; rfl, HL2.out.setCell (by simp) _⟩

/-- .. of a grid that a call has made since w0. -/
theorem matrixOf_ans (w0 : World) (v : Value) (zss : List (List Int)) (w : World) (hL : Later w0 w) (h : OwnRows w0.heap.size w.heap.size w v zss) :
    Calls Try.prog 50 #[v] w fun e w' => MatAns w0 (ifGood zss) e w' := by
  refine (matrixOf_any v zss w h.rows).mono ?_
  rintro e w' ⟨rfl, hL2⟩
  have hl := hL.trans hL2
  unfold MatAns ifGood
  cases goodM 1000000 zss
  · exact ⟨.slice none 0 0, rfl, OwnRows.empty _ _ _, hl⟩
  · exact ⟨v, rfl, (h.later hL2).wide (Nat.le_refl _) hL2.size, hl⟩

def unitAns (n : Int) : Option (List (List Int)) := if 1 ≤ n ∧ n ≤ 4 then some (unitM n.toNat) else none
theorem unitAns_good (n : Nat) (h1 : 1 ≤ n) (h2 : n ≤ 4) : ifGood (unitM n) = some (unitM n) := by
  unfold ifGood
  rw [if_pos]
  have : n = 1 ∨ n = 2 ∨ n = 3 ∨ n = 4 := by omega
  rcases this with rfl | rfl | rfl | rfl <;> decide

set_option maxHeartbeats 400000 in
theorem implUnitMatrix_any (n : Int) (w : World) :
    Calls Try.prog 33 #[.int .i64 n] w fun e w' => MatAns w (unitAns n) e w' := by
  have hb0 : Box (w.alloc (Obj.cells #[Value.slice none 0 0] 27)) w.heap.size (.slice none 0 0) := ⟨by simp [go_sem], by simp [go_sem]⟩
  have HL0 := hid (Later.alloc w (Obj.cells #[Value.slice none 0 0] 27))
  by_cases h : 1 ≤ n ∧ n ≤ 4
  · obtain ⟨m, rfl⟩ : ∃ m : Nat, n = (m : Int) := ⟨n.toNat, by omega⟩
    have hm : m ≤ 4 := by omega
    have hm1 : 1 ≤ m := by omega
    have hn1 : ¬ (m : Int) < 1 := by omega
    have hn4 : ¬ (4 : Int) < (m : Int) := by omega
    have HA := hid (show unitAns (m : Int) = ifGood (mk m eqI) by unfold unitAns; rw [if_pos h]; exact (unitAns_good m hm1 hm).symm)
    clear h
    go_enter Try.func33, Try.ntmps33
    go_wp2_with fail
    refine (gridOf_pure m 52 #[] eqI _ (by omega) Try.call52 (fun i j w1 _ _ _ => (unitEntry_any i j w1).mono fun e w2 ⟨he, hw⟩ => ⟨he, by subst hw; exact Later.refl _⟩)).mono ?_
    rintro e w1 ⟨v1, rfl, ho1, hL1⟩
    have HB0 := hid hb0
    have HO := hid ho1
    have HL1 := hid hL1
    clear hb0 ho1 hL1
    go_wp2_with fail
    refine (matrixOf_ans _ _ (mk m eqI) _ HL1.out HO.out).mono ?_
    rintro e w2 ⟨v2, rfl, ho2, hL2⟩
    obtain ⟨hc0, hf0⟩ := HB0.out.later hL2
    have HL2 := hid (HL0.out.trans hL2)
    obtain ⟨a, cap, rfl, _⟩ := ho2.shape
    have HO2 := hid ho2
    clear hL2 ho2
    go_wp2_with fail
    refine bodyPost_ret (v := .tuple #[.agg #[.slice a ((ifGood (mk m eqI)).getD []).length cap], .bool (ifGood (mk m eqI)).isSome]) (by simp [results, Try.results33, go_sem, hc0]) rfl ⟨_, by rw [HA.out], ?_, ?_⟩
    · rw [HA.out]
      exact (HO2.out.setCell (a := ⟨w.heap.size, 0, none⟩) (by simp) _).wide (by simp) (by simp [World.setCell])
    · exact HL2.out.setCell (by simp) _
  · have HA := hid (show unitAns n = none by unfold unitAns; rw [if_neg h])
    obtain ⟨hc0, hf0⟩ := hb0
    by_cases h1 : n < 1
    · go_enter Try.func33, Try.ntmps33
      go_wp2_with fail
      refine bodyPost_ret (v := .tuple #[.agg #[.slice none 0 0], .bool false]) (by simp [results, Try.results33, go_sem, hc0]) rfl ⟨_, by rw [HA.out]; rfl, by rw [HA.out]; exact OwnRows.empty _ _ _, ?_⟩
      first | exact HL0.out | exact HL0.out.setCell (by simp) _
    · have h4 : 4 < n := by omega
      go_enter Try.func33, Try.ntmps33
      go_wp2_with fail
      refine bodyPost_ret (v := .tuple #[.agg #[.slice none 0 0], .bool false]) (by simp [results, Try.results33, go_sem, hc0]) rfl ⟨_, by rw [HA.out]; rfl, by rw [HA.out]; exact OwnRows.empty _ _ _, ?_⟩
      first | exact HL0.out | exact HL0.out.setCell (by simp) _
end Go.Proofs.Ytkpnckcfoigceaa
