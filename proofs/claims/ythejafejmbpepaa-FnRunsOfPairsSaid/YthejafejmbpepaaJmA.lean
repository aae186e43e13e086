/- The matrix of jumps up: the model and the program. -/
import Derived.Test.YthejafejmbpepaaUnit2
import Derived.Test.YthejafejmbpepaaJpM
namespace Go.Proofs.Ythejafejmbpepaa
open Go.RowKit

def jmL (k : Int) : List (List Int) := [[k, -1], [1, 0]]
def jmM (k : Int) : Option (List (List Int)) := if 1 ≤ k ∧ k ≤ 1000 then some (jmL k) else none
theorem jmM_off (k : Int) : off ((jmM k).getD []) ((jmM k).getD []).length ≤ 1000000000000 := by
  unfold jmM
  split
  · simp [jmL, off]
  · simp [off]
theorem jmL_good {k : Int} (h : 1 ≤ k ∧ k ≤ 1000) : ifGood (jmL k) = some (jmL k) := by
  unfold ifGood
  rw [if_pos]
  have h1 : within (-1000000) 1000000 k = true := within_yes (by omega) (by omega)
  simp [goodM, rowGood, jmL, h1]
  decide
theorem jm_pair (w : World) (a b : Int) : OwnInts w.heap.size (w.alloc (.cells #[.int .i64 a, .int .i64 b] 3)).heap.size (w.alloc (.cells #[.int .i64 a, .int .i64 b] 3)) (.slice (some ⟨w.heap.size, 0, none⟩) 2 2) [a, b] := by
  have h := World.ownsRow_lit (e := 3) (size := 1) w #[.int .i64 a, .int .i64 b] 2 (Nat.le_refl _) (by unfold maxLen; omega) (by simp)
  refine ⟨h, fun k hk => ?_⟩
  simp [Value.ownBlock] at hk ⊢
  omega
theorem ownsMat2 (w : World) (a b c d : Int) :
    OwnRows w.heap.size (w.heap.size + 3) (((w.alloc (.cells #[.int .i64 a, .int .i64 b] 3)).alloc (.cells #[.int .i64 c, .int .i64 d] 3)).alloc (.cells #[.slice (some ⟨w.heap.size, 0, none⟩) 2 2, .slice (some ⟨w.heap.size + 1, 0, none⟩) 2 2] 34))
      (.slice (some ⟨w.heap.size + 1 + 1, 0, none⟩) 2 2) [[a, b], [c, d]] := by
  obtain ⟨w1, h1⟩ : ∃ w1, w.alloc (.cells #[.int .i64 a, .int .i64 b] 3) = w1 := ⟨_, rfl⟩
  obtain ⟨w2, h2⟩ : ∃ w2, w1.alloc (.cells #[.int .i64 c, .int .i64 d] 3) = w2 := ⟨_, rfl⟩
  have s1 : w1.heap.size = w.heap.size + 1 := by rw [← h1]; simp
  have s2 : w2.heap.size = w.heap.size + 1 + 1 := by rw [← h2]; simp [s1]
  rw [h1, h2]
  have o1 := jm_pair w a b
  have o2 := jm_pair w1 c d
  rw [h1] at o1
  rw [h2] at o2
  have l2 : Later w1 w2 := h2 ▸ Later.alloc _ _
  have l4 := Later.alloc w2 (.cells #[.slice (some ⟨w.heap.size, 0, none⟩) 2 2, .slice (some ⟨w.heap.size + 1, 0, none⟩) 2 2] 34)
  have hl := World.ownsRow_lit (e := 34) (size := 1) w2 #[.slice (some ⟨w.heap.size, 0, none⟩) 2 2, .slice (some ⟨w.heap.size + 1, 0, none⟩) 2 2] 2 (Nat.le_refl _) (by unfold maxLen; omega) (by simp)
  rw [s2] at hl
  refine ⟨[.slice (some ⟨w.heap.size, 0, none⟩) 2 2, .slice (some ⟨w.heap.size + 1, 0, none⟩) 2 2], rfl, ownsRow_base (by simpa using hl) (by omega), fun k hk => by simp [Value.ownBlock] at hk; omega, ?_, ?_⟩
  · intro j hj
    have hj3 : j = 0 ∨ j = 1 := by simp at hj; omega
    rcases hj3 with rfl | rfl
    · exact ((o1.later l2).later l4).wide (Nat.le_refl _) (by omega)
    · have := o2.later l4
      rw [s1] at this
      exact this.wide (by omega) (by omega)
  · intro x y hxy hy k hk
    have hy3 : x = 0 ∧ y = 1 := by simp at hy; omega
    obtain ⟨rfl, rfl⟩ := hy3
    simp [Value.ownBlock] at hk ⊢
    omega
set_option maxRecDepth 20000 in
set_option maxHeartbeats 2000000 in
theorem implJumpMatrix_any (k : Int) (w : World) :
    Calls Try.prog 14 #[.int .i64 k] w fun e w' => MatAns w (jmM k) e w' := by
  have HL := hid (Later.alloc w (.cells #[.slice none 0 0] 31))
  have HX := hid (show Box (w.alloc (.cells #[.slice none 0 0] 31)) w.heap.size (.slice none 0 0) from ⟨by simp [go_sem], by simp [go_sem]⟩)
  have HSZ := hid (show (w.alloc (.cells #[.slice none 0 0] 31)).heap.size = w.heap.size + 1 by simp)
  by_cases h : 1 ≤ k ∧ k ≤ 1000
  · have HK := hid (show decide (1 ≤ k ∧ k ≤ 1000) = true from decide_eq_true h)
    have HA := hid (show jmM k = some (jmL k) from if_pos h)
    have HG := hid (jmL_good h)
    clear h
    go_enter Try.func14, Try.ntmps14
    go_wp2_with (go_at_call 51; refine (isK_as _ _ _ HK.out).mono ?_; rintro e w' ⟨rfl, rfl⟩)
    have hO := ownsMat2 (w.alloc (.cells #[.slice none 0 0] 31)) k (-1) 1 0
    have hL3 := ((Later.alloc (w.alloc (.cells #[.slice none 0 0] 31)) (.cells #[.int .i64 k, .int .i64 (-1)] 3)).trans (Later.alloc _ (.cells #[.int .i64 1, .int .i64 0] 3))).trans (Later.alloc _ (.cells #[.slice (some ⟨w.heap.size + 1, 0, none⟩) 2 2, .slice (some ⟨w.heap.size + 1 + 1, 0, none⟩) 2 2] 34))
    rw [HSZ.out] at hO
    have hs3 : ((((w.alloc (.cells #[.slice none 0 0] 31)).alloc (.cells #[.int .i64 k, .int .i64 (-1)] 3)).alloc (.cells #[.int .i64 1, .int .i64 0] 3)).alloc (.cells #[.slice (some ⟨w.heap.size + 1, 0, none⟩) 2 2, .slice (some ⟨w.heap.size + 1 + 1, 0, none⟩) 2 2] 34)).heap.size = w.heap.size + 1 + 3 := by simp
    generalize (((w.alloc (.cells #[.slice none 0 0] 31)).alloc (.cells #[.int .i64 k, .int .i64 (-1)] 3)).alloc (.cells #[.int .i64 1, .int .i64 0] 3)).alloc (.cells #[.slice (some ⟨w.heap.size + 1, 0, none⟩) 2 2, .slice (some ⟨w.heap.size + 1 + 1, 0, none⟩) 2 2] 34) = w4 at hO hL3 hs3 ⊢
    generalize w.alloc (.cells #[.slice none 0 0] 31) = w1 at HL HX HSZ hL3 ⊢
    refine (matrixOf_ans w1 _ (jmL k) w4 hL3 (by rw [HSZ.out, hs3]; exact hO)).mono ?_
    rw [HG.out]
    rintro e w5 ⟨v5, rfl, ho5, hL5⟩
    have HO5 := hid ho5
    have HX5 := hid (HX.out.later hL5)
    have HL5 := hid (HL.out.trans hL5)
    obtain ⟨r0, f0⟩ := HX5.out
    obtain ⟨a3, c3, rfl, _⟩ := ho5.shape
    have HSS := hid (show w1.heap.size = w.heap.size + 1 from HSZ.out)
    clear ho5 hL5 hO hL3 hs3
    go_wp2_with fail
    have HO6 := hid (HO5.out.setCell (a := ⟨w.heap.size, 0, none⟩) (by have := HSS.out; simp; omega) (.slice a3 (jmL k).length c3))
    have e0 := (HX5.out.set (.slice a3 (jmL k).length c3)).1
    have HL6 := hid (show Later w (w5.setCell ⟨w.heap.size, 0, none⟩ (.slice a3 (jmL k).length c3)) from Below.setCell HL5.out (Nat.le_refl _) _)
    have HS6 := hid (show w5.heap.size ≤ (w5.setCell ⟨w.heap.size, 0, none⟩ (.slice a3 (jmL k).length c3)).heap.size by simp)
    generalize w5.setCell ⟨w.heap.size, 0, none⟩ (.slice a3 (jmL k).length c3) = w6 at HO6 e0 HL6 HS6 ⊢
    clear r0 f0
    refine bodyPost_ret (v := .tuple #[.agg #[.slice a3 (jmL k).length c3], .bool true]) ?_ rfl ⟨_, by rw [HA.out]; rfl, by rw [HA.out]; exact HO6.out.wide (by have := HSS.out; omega) HS6.out, HL6.out⟩
    rw [results_cell_tmp rfl]
    go_simp
  · have HK := hid (show decide (1 ≤ k ∧ k ≤ 1000) = false from decide_eq_false h)
    have HA := hid (show jmM k = none from if_neg h)
    clear h
    go_enter Try.func14, Try.ntmps14
    go_wp2_with (go_at_call 51; refine (isK_as _ _ _ HK.out).mono ?_; rintro e w' ⟨rfl, rfl⟩)
    have e0 := HX.out.1
    generalize w.alloc (.cells #[.slice none 0 0] 31) = w1 at HL e0 ⊢
    clear HX HSZ
    refine bodyPost_ret (v := .tuple #[.agg #[.slice none 0 0], .bool false]) ?_ rfl ⟨_, by rw [HA.out]; rfl, by rw [HA.out]; exact OwnRows.empty _ _ _, HL.out⟩
    rw [results_cell_tmp rfl]
    go_simp
set_option maxRecDepth 20000 in
set_option maxHeartbeats 2000000 in
theorem specJumpMatrix_any (k : Int) (w : World) :
    Calls Try.prog 18 #[.int .i64 k] w fun e w' => MatAns w (jmM k) e w' := by
  by_cases h : 1 ≤ k ∧ k ≤ 1000
  · have hw1 := within_yes h.1 h.2
    have HA := hid (show jmM k = some (jmL k) from if_pos h)
    clear h
    go_enter Try.func18, Try.ntmps18
    go_wp2_with (go_at_call 50; refine (l1In_any _ _ _ _).mono ?_; rintro e w2 ⟨rfl, rfl⟩)
    have hO := ownsMat2 (w.alloc (.cells #[.slice (some ⟨w.heap.size + 1 + 1 + 1, 0, none⟩) 2 2] 31)) k (-1) 1 0
    have hs : (w.alloc (.cells #[.slice (some ⟨w.heap.size + 1 + 1 + 1, 0, none⟩) 2 2] 31)).heap.size = w.heap.size + 1 := by simp
    have hc : (w.alloc (.cells #[.slice (some ⟨w.heap.size + 1 + 1 + 1, 0, none⟩) 2 2] 31)).cell? ⟨w.heap.size, 0, none⟩ = some (.slice (some ⟨w.heap.size + 1 + 1 + 1, 0, none⟩) 2 2) := by simp [go_sem]
    rw [hs] at hO
    have hL3 := ((Later.alloc (w.alloc (.cells #[.slice (some ⟨w.heap.size + 1 + 1 + 1, 0, none⟩) 2 2] 31)) (.cells #[.int .i64 k, .int .i64 (-1)] 3)).trans (Later.alloc _ (.cells #[.int .i64 1, .int .i64 0] 3))).trans (Later.alloc _ (.cells #[.slice (some ⟨w.heap.size + 1, 0, none⟩) 2 2, .slice (some ⟨w.heap.size + 1 + 1, 0, none⟩) 2 2] 34))
    have c0 := hL3.cell hc
    have HL := hid ((Later.alloc w (.cells #[.slice (some ⟨w.heap.size + 1 + 1 + 1, 0, none⟩) 2 2] 31)).trans hL3)
    have hs3 : ((((w.alloc (.cells #[.slice (some ⟨w.heap.size + 1 + 1 + 1, 0, none⟩) 2 2] 31)).alloc (.cells #[.int .i64 k, .int .i64 (-1)] 3)).alloc (.cells #[.int .i64 1, .int .i64 0] 3)).alloc (.cells #[.slice (some ⟨w.heap.size + 1, 0, none⟩) 2 2, .slice (some ⟨w.heap.size + 1 + 1, 0, none⟩) 2 2] 34)).heap.size = w.heap.size + 1 + 3 := by simp
    have HO := hid hO
    clear hO hs hc hL3
    generalize ((((w.alloc (.cells #[.slice (some ⟨w.heap.size + 1 + 1 + 1, 0, none⟩) 2 2] 31)).alloc (.cells #[.int .i64 k, .int .i64 (-1)] 3)).alloc (.cells #[.int .i64 1, .int .i64 0] 3)).alloc (.cells #[.slice (some ⟨w.heap.size + 1, 0, none⟩) 2 2, .slice (some ⟨w.heap.size + 1 + 1, 0, none⟩) 2 2] 34)) = w4 at HO HL c0 hs3 ⊢
    refine bodyPost_ret (v := .tuple #[.agg #[.slice (some ⟨w.heap.size + 1 + 1 + 1, 0, none⟩) 2 2], .bool true]) ?_ rfl ⟨_, by rw [HA.out]; rfl, by rw [HA.out]; exact HO.out.wide (by omega) (by omega), HL.out⟩
    rw [results_cell_tmp rfl]
    go_simp
  · have hw1 := within_no h
    have HA := hid (show jmM k = none from if_neg h)
    have HL := hid (Later.alloc w (.cells #[.slice none 0 0] 31))
    have hx : (w.alloc (.cells #[.slice none 0 0] 31)).cell? ⟨w.heap.size, 0, none⟩ = some (.slice none 0 0) := by simp [go_sem]
    clear h
    go_enter Try.func18, Try.ntmps18
    go_wp2_with (go_at_call 50; refine (l1In_any _ _ _ _).mono ?_; rintro e w2 ⟨rfl, rfl⟩)
    generalize w.alloc (.cells #[.slice none 0 0] 31) = w1 at HL hx ⊢
    refine bodyPost_ret (v := .tuple #[.agg #[.slice none 0 0], .bool false]) ?_ rfl ⟨_, by rw [HA.out]; rfl, by rw [HA.out]; exact OwnRows.empty _ _ _, HL.out⟩
    rw [results_cell_tmp rfl]
    go_simp
end Go.Proofs.Ythejafejmbpepaa
