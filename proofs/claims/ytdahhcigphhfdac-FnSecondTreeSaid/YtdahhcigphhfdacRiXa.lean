/- The matrices of both trees: the model. -/
import Derived.Test.YtdahhcigphhfdacRiS
import Derived.Test.YtdahhcigphhfdacBasB
namespace Go.Proofs.Ytdahhcigphhfdac
open Go.RowKit

theorem ownsMat3 (w : World) (a b c d e f g h i : Int) :
    OwnRows w.heap.size (w.heap.size + 4) ((((w.alloc (.cells #[.int .i64 a, .int .i64 b, .int .i64 c] 3)).alloc (.cells #[.int .i64 d, .int .i64 e, .int .i64 f] 3)).alloc (.cells #[.int .i64 g, .int .i64 h, .int .i64 i] 3)).alloc (.cells #[.slice (some ⟨w.heap.size, 0, none⟩) 3 3, .slice (some ⟨w.heap.size + 1, 0, none⟩) 3 3, .slice (some ⟨w.heap.size + 1 + 1, 0, none⟩) 3 3] 26))
      (.slice (some ⟨w.heap.size + 1 + 1 + 1, 0, none⟩) 3 3) [[a, b, c], [d, e, f], [g, h, i]] := by
  obtain ⟨w1, h1⟩ : ∃ w1, w.alloc (.cells #[.int .i64 a, .int .i64 b, .int .i64 c] 3) = w1 := ⟨_, rfl⟩
  obtain ⟨w2, h2⟩ : ∃ w2, w1.alloc (.cells #[.int .i64 d, .int .i64 e, .int .i64 f] 3) = w2 := ⟨_, rfl⟩
  obtain ⟨w3, h3⟩ : ∃ w3, w2.alloc (.cells #[.int .i64 g, .int .i64 h, .int .i64 i] 3) = w3 := ⟨_, rfl⟩
  have s1 : w1.heap.size = w.heap.size + 1 := by rw [← h1]; simp
  have s2 : w2.heap.size = w.heap.size + 1 + 1 := by rw [← h2]; simp [s1]
  have s3 : w3.heap.size = w.heap.size + 1 + 1 + 1 := by rw [← h3]; simp [s2]
  rw [h1, h2, h3]
  have o1 := ownsThreeR w a b c
  have o2 := ownsThreeR w1 d e f
  have o3 := ownsThreeR w2 g h i
  rw [h1] at o1
  rw [h2] at o2
  rw [h3] at o3
  have l2 : Later w1 w2 := h2 ▸ Later.alloc _ _
  have l3 : Later w2 w3 := h3 ▸ Later.alloc _ _
  have l4 := Later.alloc w3 (.cells #[.slice (some ⟨w.heap.size, 0, none⟩) 3 3, .slice (some ⟨w.heap.size + 1, 0, none⟩) 3 3, .slice (some ⟨w.heap.size + 1 + 1, 0, none⟩) 3 3] 26)
  have hl := World.ownsRow_lit (e := 26) (size := 1) w3 #[.slice (some ⟨w.heap.size, 0, none⟩) 3 3, .slice (some ⟨w.heap.size + 1, 0, none⟩) 3 3, .slice (some ⟨w.heap.size + 1 + 1, 0, none⟩) 3 3] 3 (Nat.le_refl _) (by unfold maxLen; omega) (by simp)
  rw [s3] at hl
  refine ⟨[.slice (some ⟨w.heap.size, 0, none⟩) 3 3, .slice (some ⟨w.heap.size + 1, 0, none⟩) 3 3, .slice (some ⟨w.heap.size + 1 + 1, 0, none⟩) 3 3], rfl, ownsRow_base (by simpa using hl) (by omega), fun k hk => by simp [Value.ownBlock] at hk; omega, ?_, ?_⟩
  · intro j hj
    have hj3 : j = 0 ∨ j = 1 ∨ j = 2 := by simp at hj; omega
    rcases hj3 with rfl | rfl | rfl
    · exact (((o1.later l2).later l3).later l4).wide (Nat.le_refl _) (by omega)
    · have := (o2.later l3).later l4
      rw [s1] at this
      exact this.wide (by omega) (by omega)
    · have := o3.later l4
      rw [s2] at this
      exact this.wide (by omega) (by omega)
  · intro x y hxy hy k hk
    have hy3 : y = 1 ∨ y = 2 := by simp at hy; omega
    rcases hy3 with rfl | rfl
    · obtain rfl : x = 0 := by omega
      simp [Value.ownBlock] at hk ⊢
      omega
    · have hx2 : x = 0 ∨ x = 1 := by omega
      rcases hx2 with rfl | rfl <;> simp [Value.ownBlock] at hk ⊢ <;> omega

def bergM (k : Int) : Option (List (List Int)) := if k = 0 then some [[1, -2, 2], [2, -1, 2], [2, -2, 3]] else if k = 1 then some [[1, 2, 2], [2, 1, 2], [2, 2, 3]] else if k = 2 then some [[-1, 2, 2], [-2, 1, 2], [-2, 2, 3]] else none
def priceM (k : Int) : Option (List (List Int)) := if k = 0 then some [[2, 1, -1], [-2, 2, 2], [-2, 1, 3]] else if k = 1 then some [[2, 1, 1], [2, -2, 2], [2, -1, 3]] else if k = 2 then some [[2, -1, 1], [2, 2, 2], [2, 1, 3]] else none

set_option maxRecDepth 20000 in
set_option maxHeartbeats 2000000 in
theorem specBergMatrix_any (k : Int) (w : World) :
    Calls Try.prog 27 #[.int .i64 k] w fun e w' => MatAns w (bergM k) e w' := by
  by_cases h0 : k = 0
  · subst h0
    have hO := ownsMat3 (w.alloc (.cells #[.slice (some ⟨w.heap.size + 1 + 1 + 1 + 1, 0, none⟩) 3 3] 46)) 1 (-2) 2 2 (-1) 2 2 (-2) 3
    have hs : (w.alloc (.cells #[.slice (some ⟨w.heap.size + 1 + 1 + 1 + 1, 0, none⟩) 3 3] 46)).heap.size = w.heap.size + 1 := by simp
    have hc : (w.alloc (.cells #[.slice (some ⟨w.heap.size + 1 + 1 + 1 + 1, 0, none⟩) 3 3] 46)).cell? ⟨w.heap.size, 0, none⟩ = some (.slice (some ⟨w.heap.size + 1 + 1 + 1 + 1, 0, none⟩) 3 3) := by simp [go_sem]
    rw [hs] at hO
    have c0 := ((((Later.alloc (w.alloc (.cells #[.slice (some ⟨w.heap.size + 1 + 1 + 1 + 1, 0, none⟩) 3 3] 46)) (.cells #[.int .i64 1, .int .i64 (-2), .int .i64 2] 3)).trans (Later.alloc _ (.cells #[.int .i64 2, .int .i64 (-1), .int .i64 2] 3))).trans (Later.alloc _ (.cells #[.int .i64 2, .int .i64 (-2), .int .i64 3] 3))).trans (Later.alloc _ (.cells #[.slice (some ⟨w.heap.size + 1, 0, none⟩) 3 3, .slice (some ⟨w.heap.size + 1 + 1, 0, none⟩) 3 3, .slice (some ⟨w.heap.size + 1 + 1 + 1, 0, none⟩) 3 3] 26))).cell hc
    have HL := hid (((((Later.alloc w (.cells #[.slice (some ⟨w.heap.size + 1 + 1 + 1 + 1, 0, none⟩) 3 3] 46)).trans (Later.alloc (w.alloc (.cells #[.slice (some ⟨w.heap.size + 1 + 1 + 1 + 1, 0, none⟩) 3 3] 46)) (.cells #[.int .i64 1, .int .i64 (-2), .int .i64 2] 3))).trans (Later.alloc _ (.cells #[.int .i64 2, .int .i64 (-1), .int .i64 2] 3))).trans (Later.alloc _ (.cells #[.int .i64 2, .int .i64 (-2), .int .i64 3] 3))).trans (Later.alloc _ (.cells #[.slice (some ⟨w.heap.size + 1, 0, none⟩) 3 3, .slice (some ⟨w.heap.size + 1 + 1, 0, none⟩) 3 3, .slice (some ⟨w.heap.size + 1 + 1 + 1, 0, none⟩) 3 3] 26)))
    have HO := hid hO
    have HC := hid c0
    have HSZ := hid (show (((((w.alloc (.cells #[.slice (some ⟨w.heap.size + 1 + 1 + 1 + 1, 0, none⟩) 3 3] 46)).alloc (.cells #[.int .i64 1, .int .i64 (-2), .int .i64 2] 3)).alloc (.cells #[.int .i64 2, .int .i64 (-1), .int .i64 2] 3)).alloc (.cells #[.int .i64 2, .int .i64 (-2), .int .i64 3] 3)).alloc (.cells #[.slice (some ⟨w.heap.size + 1, 0, none⟩) 3 3, .slice (some ⟨w.heap.size + 1 + 1, 0, none⟩) 3 3, .slice (some ⟨w.heap.size + 1 + 1 + 1, 0, none⟩) 3 3] 26)).heap.size = w.heap.size + 1 + 4 by simp)
    clear hO hs hc c0
    go_enter Try.func27, Try.ntmps27
    go_wp2_with fail
    have c0 := HC.out
    generalize ((((w.alloc (.cells #[.slice (some ⟨w.heap.size + 1 + 1 + 1 + 1, 0, none⟩) 3 3] 46)).alloc (.cells #[.int .i64 1, .int .i64 (-2), .int .i64 2] 3)).alloc (.cells #[.int .i64 2, .int .i64 (-1), .int .i64 2] 3)).alloc (.cells #[.int .i64 2, .int .i64 (-2), .int .i64 3] 3)).alloc (.cells #[.slice (some ⟨w.heap.size + 1, 0, none⟩) 3 3, .slice (some ⟨w.heap.size + 1 + 1, 0, none⟩) 3 3, .slice (some ⟨w.heap.size + 1 + 1 + 1, 0, none⟩) 3 3] 26) = w4 at HO HL HC HSZ c0 ⊢
    refine bodyPost_ret (v := .tuple #[.agg #[.slice (some ⟨w.heap.size + 1 + 1 + 1 + 1, 0, none⟩) 3 3], .bool true]) ?_ rfl ⟨_, rfl, HO.out.wide (by omega) (by have := HSZ.out; omega), HL.out⟩
    rw [results_cell_tmp rfl]
    go_simp
  · have hb0 : (k == 0) = false := beq_eq_false_iff_ne.2 h0
    by_cases h1 : k = 1
    · subst h1
      have hO := ownsMat3 (w.alloc (.cells #[.slice (some ⟨w.heap.size + 1 + 1 + 1 + 1, 0, none⟩) 3 3] 46)) 1 2 2 2 1 2 2 2 3
      have hs : (w.alloc (.cells #[.slice (some ⟨w.heap.size + 1 + 1 + 1 + 1, 0, none⟩) 3 3] 46)).heap.size = w.heap.size + 1 := by simp
      have hc : (w.alloc (.cells #[.slice (some ⟨w.heap.size + 1 + 1 + 1 + 1, 0, none⟩) 3 3] 46)).cell? ⟨w.heap.size, 0, none⟩ = some (.slice (some ⟨w.heap.size + 1 + 1 + 1 + 1, 0, none⟩) 3 3) := by simp [go_sem]
      rw [hs] at hO
      have c0 := ((((Later.alloc (w.alloc (.cells #[.slice (some ⟨w.heap.size + 1 + 1 + 1 + 1, 0, none⟩) 3 3] 46)) (.cells #[.int .i64 1, .int .i64 2, .int .i64 2] 3)).trans (Later.alloc _ (.cells #[.int .i64 2, .int .i64 1, .int .i64 2] 3))).trans (Later.alloc _ (.cells #[.int .i64 2, .int .i64 2, .int .i64 3] 3))).trans (Later.alloc _ (.cells #[.slice (some ⟨w.heap.size + 1, 0, none⟩) 3 3, .slice (some ⟨w.heap.size + 1 + 1, 0, none⟩) 3 3, .slice (some ⟨w.heap.size + 1 + 1 + 1, 0, none⟩) 3 3] 26))).cell hc
      have HL := hid (((((Later.alloc w (.cells #[.slice (some ⟨w.heap.size + 1 + 1 + 1 + 1, 0, none⟩) 3 3] 46)).trans (Later.alloc (w.alloc (.cells #[.slice (some ⟨w.heap.size + 1 + 1 + 1 + 1, 0, none⟩) 3 3] 46)) (.cells #[.int .i64 1, .int .i64 2, .int .i64 2] 3))).trans (Later.alloc _ (.cells #[.int .i64 2, .int .i64 1, .int .i64 2] 3))).trans (Later.alloc _ (.cells #[.int .i64 2, .int .i64 2, .int .i64 3] 3))).trans (Later.alloc _ (.cells #[.slice (some ⟨w.heap.size + 1, 0, none⟩) 3 3, .slice (some ⟨w.heap.size + 1 + 1, 0, none⟩) 3 3, .slice (some ⟨w.heap.size + 1 + 1 + 1, 0, none⟩) 3 3] 26)))
      have HO := hid hO
      have HC := hid c0
      have HSZ := hid (show (((((w.alloc (.cells #[.slice (some ⟨w.heap.size + 1 + 1 + 1 + 1, 0, none⟩) 3 3] 46)).alloc (.cells #[.int .i64 1, .int .i64 2, .int .i64 2] 3)).alloc (.cells #[.int .i64 2, .int .i64 1, .int .i64 2] 3)).alloc (.cells #[.int .i64 2, .int .i64 2, .int .i64 3] 3)).alloc (.cells #[.slice (some ⟨w.heap.size + 1, 0, none⟩) 3 3, .slice (some ⟨w.heap.size + 1 + 1, 0, none⟩) 3 3, .slice (some ⟨w.heap.size + 1 + 1 + 1, 0, none⟩) 3 3] 26)).heap.size = w.heap.size + 1 + 4 by simp)
      clear hO hs hc c0
      go_enter Try.func27, Try.ntmps27
      go_wp2_with fail
      have c0 := HC.out
      generalize ((((w.alloc (.cells #[.slice (some ⟨w.heap.size + 1 + 1 + 1 + 1, 0, none⟩) 3 3] 46)).alloc (.cells #[.int .i64 1, .int .i64 2, .int .i64 2] 3)).alloc (.cells #[.int .i64 2, .int .i64 1, .int .i64 2] 3)).alloc (.cells #[.int .i64 2, .int .i64 2, .int .i64 3] 3)).alloc (.cells #[.slice (some ⟨w.heap.size + 1, 0, none⟩) 3 3, .slice (some ⟨w.heap.size + 1 + 1, 0, none⟩) 3 3, .slice (some ⟨w.heap.size + 1 + 1 + 1, 0, none⟩) 3 3] 26) = w4 at HO HL HC HSZ c0 ⊢
      refine bodyPost_ret (v := .tuple #[.agg #[.slice (some ⟨w.heap.size + 1 + 1 + 1 + 1, 0, none⟩) 3 3], .bool true]) ?_ rfl ⟨_, rfl, HO.out.wide (by omega) (by have := HSZ.out; omega), HL.out⟩
      rw [results_cell_tmp rfl]
      go_simp
    · have hb1 : (k == 1) = false := beq_eq_false_iff_ne.2 h1
      by_cases h2 : k = 2
      · subst h2
        have hO := ownsMat3 (w.alloc (.cells #[.slice (some ⟨w.heap.size + 1 + 1 + 1 + 1, 0, none⟩) 3 3] 46)) (-1) 2 2 (-2) 1 2 (-2) 2 3
        have hs : (w.alloc (.cells #[.slice (some ⟨w.heap.size + 1 + 1 + 1 + 1, 0, none⟩) 3 3] 46)).heap.size = w.heap.size + 1 := by simp
        have hc : (w.alloc (.cells #[.slice (some ⟨w.heap.size + 1 + 1 + 1 + 1, 0, none⟩) 3 3] 46)).cell? ⟨w.heap.size, 0, none⟩ = some (.slice (some ⟨w.heap.size + 1 + 1 + 1 + 1, 0, none⟩) 3 3) := by simp [go_sem]
        rw [hs] at hO
        have c0 := ((((Later.alloc (w.alloc (.cells #[.slice (some ⟨w.heap.size + 1 + 1 + 1 + 1, 0, none⟩) 3 3] 46)) (.cells #[.int .i64 (-1), .int .i64 2, .int .i64 2] 3)).trans (Later.alloc _ (.cells #[.int .i64 (-2), .int .i64 1, .int .i64 2] 3))).trans (Later.alloc _ (.cells #[.int .i64 (-2), .int .i64 2, .int .i64 3] 3))).trans (Later.alloc _ (.cells #[.slice (some ⟨w.heap.size + 1, 0, none⟩) 3 3, .slice (some ⟨w.heap.size + 1 + 1, 0, none⟩) 3 3, .slice (some ⟨w.heap.size + 1 + 1 + 1, 0, none⟩) 3 3] 26))).cell hc
        have HL := hid (((((Later.alloc w (.cells #[.slice (some ⟨w.heap.size + 1 + 1 + 1 + 1, 0, none⟩) 3 3] 46)).trans (Later.alloc (w.alloc (.cells #[.slice (some ⟨w.heap.size + 1 + 1 + 1 + 1, 0, none⟩) 3 3] 46)) (.cells #[.int .i64 (-1), .int .i64 2, .int .i64 2] 3))).trans (Later.alloc _ (.cells #[.int .i64 (-2), .int .i64 1, .int .i64 2] 3))).trans (Later.alloc _ (.cells #[.int .i64 (-2), .int .i64 2, .int .i64 3] 3))).trans (Later.alloc _ (.cells #[.slice (some ⟨w.heap.size + 1, 0, none⟩) 3 3, .slice (some ⟨w.heap.size + 1 + 1, 0, none⟩) 3 3, .slice (some ⟨w.heap.size + 1 + 1 + 1, 0, none⟩) 3 3] 26)))
        have HO := hid hO
        have HC := hid c0
        have HSZ := hid (show (((((w.alloc (.cells #[.slice (some ⟨w.heap.size + 1 + 1 + 1 + 1, 0, none⟩) 3 3] 46)).alloc (.cells #[.int .i64 (-1), .int .i64 2, .int .i64 2] 3)).alloc (.cells #[.int .i64 (-2), .int .i64 1, .int .i64 2] 3)).alloc (.cells #[.int .i64 (-2), .int .i64 2, .int .i64 3] 3)).alloc (.cells #[.slice (some ⟨w.heap.size + 1, 0, none⟩) 3 3, .slice (some ⟨w.heap.size + 1 + 1, 0, none⟩) 3 3, .slice (some ⟨w.heap.size + 1 + 1 + 1, 0, none⟩) 3 3] 26)).heap.size = w.heap.size + 1 + 4 by simp)
        clear hO hs hc c0
        go_enter Try.func27, Try.ntmps27
        go_wp2_with fail
        have c0 := HC.out
        generalize ((((w.alloc (.cells #[.slice (some ⟨w.heap.size + 1 + 1 + 1 + 1, 0, none⟩) 3 3] 46)).alloc (.cells #[.int .i64 (-1), .int .i64 2, .int .i64 2] 3)).alloc (.cells #[.int .i64 (-2), .int .i64 1, .int .i64 2] 3)).alloc (.cells #[.int .i64 (-2), .int .i64 2, .int .i64 3] 3)).alloc (.cells #[.slice (some ⟨w.heap.size + 1, 0, none⟩) 3 3, .slice (some ⟨w.heap.size + 1 + 1, 0, none⟩) 3 3, .slice (some ⟨w.heap.size + 1 + 1 + 1, 0, none⟩) 3 3] 26) = w4 at HO HL HC HSZ c0 ⊢
        refine bodyPost_ret (v := .tuple #[.agg #[.slice (some ⟨w.heap.size + 1 + 1 + 1 + 1, 0, none⟩) 3 3], .bool true]) ?_ rfl ⟨_, rfl, HO.out.wide (by omega) (by have := HSZ.out; omega), HL.out⟩
        rw [results_cell_tmp rfl]
        go_simp
      · have hb2 : (k == 2) = false := beq_eq_false_iff_ne.2 h2
        have HA := hid (show bergM k = none by unfold bergM; rw [if_neg h0, if_neg h1, if_neg h2])
        have HL := hid (Later.alloc w (.cells #[.slice none 0 0] 46))
        go_enter Try.func27, Try.ntmps27
        go_wp2_with fail
        have c0 : (w.alloc (.cells #[.slice none 0 0] 46)).cell? ⟨w.heap.size, 0, none⟩ = some (.slice none 0 0) := by simp [go_sem]
        generalize w.alloc (.cells #[.slice none 0 0] 46) = w4 at HL c0 ⊢
        refine bodyPost_ret (v := .tuple #[.agg #[.slice none 0 0], .bool false]) ?_ rfl ⟨_, by rw [HA.out]; rfl, by rw [HA.out]; exact OwnRows.empty _ _ _, HL.out⟩
        rw [results_cell_tmp rfl]
        go_simp

set_option maxRecDepth 20000 in
set_option maxHeartbeats 2000000 in
theorem specPriceMatrix_any (k : Int) (w : World) :
    Calls Try.prog 40 #[.int .i64 k] w fun e w' => MatAns w (priceM k) e w' := by
  by_cases h0 : k = 0
  · subst h0
    have hO := ownsMat3 (w.alloc (.cells #[.slice (some ⟨w.heap.size + 1 + 1 + 1 + 1, 0, none⟩) 3 3] 46)) 2 1 (-1) (-2) 2 2 (-2) 1 3
    have hs : (w.alloc (.cells #[.slice (some ⟨w.heap.size + 1 + 1 + 1 + 1, 0, none⟩) 3 3] 46)).heap.size = w.heap.size + 1 := by simp
    have hc : (w.alloc (.cells #[.slice (some ⟨w.heap.size + 1 + 1 + 1 + 1, 0, none⟩) 3 3] 46)).cell? ⟨w.heap.size, 0, none⟩ = some (.slice (some ⟨w.heap.size + 1 + 1 + 1 + 1, 0, none⟩) 3 3) := by simp [go_sem]
    rw [hs] at hO
    have c0 := ((((Later.alloc (w.alloc (.cells #[.slice (some ⟨w.heap.size + 1 + 1 + 1 + 1, 0, none⟩) 3 3] 46)) (.cells #[.int .i64 2, .int .i64 1, .int .i64 (-1)] 3)).trans (Later.alloc _ (.cells #[.int .i64 (-2), .int .i64 2, .int .i64 2] 3))).trans (Later.alloc _ (.cells #[.int .i64 (-2), .int .i64 1, .int .i64 3] 3))).trans (Later.alloc _ (.cells #[.slice (some ⟨w.heap.size + 1, 0, none⟩) 3 3, .slice (some ⟨w.heap.size + 1 + 1, 0, none⟩) 3 3, .slice (some ⟨w.heap.size + 1 + 1 + 1, 0, none⟩) 3 3] 26))).cell hc
    have HL := hid (((((Later.alloc w (.cells #[.slice (some ⟨w.heap.size + 1 + 1 + 1 + 1, 0, none⟩) 3 3] 46)).trans (Later.alloc (w.alloc (.cells #[.slice (some ⟨w.heap.size + 1 + 1 + 1 + 1, 0, none⟩) 3 3] 46)) (.cells #[.int .i64 2, .int .i64 1, .int .i64 (-1)] 3))).trans (Later.alloc _ (.cells #[.int .i64 (-2), .int .i64 2, .int .i64 2] 3))).trans (Later.alloc _ (.cells #[.int .i64 (-2), .int .i64 1, .int .i64 3] 3))).trans (Later.alloc _ (.cells #[.slice (some ⟨w.heap.size + 1, 0, none⟩) 3 3, .slice (some ⟨w.heap.size + 1 + 1, 0, none⟩) 3 3, .slice (some ⟨w.heap.size + 1 + 1 + 1, 0, none⟩) 3 3] 26)))
    have HO := hid hO
    have HC := hid c0
    have HSZ := hid (show (((((w.alloc (.cells #[.slice (some ⟨w.heap.size + 1 + 1 + 1 + 1, 0, none⟩) 3 3] 46)).alloc (.cells #[.int .i64 2, .int .i64 1, .int .i64 (-1)] 3)).alloc (.cells #[.int .i64 (-2), .int .i64 2, .int .i64 2] 3)).alloc (.cells #[.int .i64 (-2), .int .i64 1, .int .i64 3] 3)).alloc (.cells #[.slice (some ⟨w.heap.size + 1, 0, none⟩) 3 3, .slice (some ⟨w.heap.size + 1 + 1, 0, none⟩) 3 3, .slice (some ⟨w.heap.size + 1 + 1 + 1, 0, none⟩) 3 3] 26)).heap.size = w.heap.size + 1 + 4 by simp)
    clear hO hs hc c0
    go_enter Try.func40, Try.ntmps40
    go_wp2_with fail
    have c0 := HC.out
    generalize ((((w.alloc (.cells #[.slice (some ⟨w.heap.size + 1 + 1 + 1 + 1, 0, none⟩) 3 3] 46)).alloc (.cells #[.int .i64 2, .int .i64 1, .int .i64 (-1)] 3)).alloc (.cells #[.int .i64 (-2), .int .i64 2, .int .i64 2] 3)).alloc (.cells #[.int .i64 (-2), .int .i64 1, .int .i64 3] 3)).alloc (.cells #[.slice (some ⟨w.heap.size + 1, 0, none⟩) 3 3, .slice (some ⟨w.heap.size + 1 + 1, 0, none⟩) 3 3, .slice (some ⟨w.heap.size + 1 + 1 + 1, 0, none⟩) 3 3] 26) = w4 at HO HL HC HSZ c0 ⊢
    refine bodyPost_ret (v := .tuple #[.agg #[.slice (some ⟨w.heap.size + 1 + 1 + 1 + 1, 0, none⟩) 3 3], .bool true]) ?_ rfl ⟨_, rfl, HO.out.wide (by omega) (by have := HSZ.out; omega), HL.out⟩
    rw [results_cell_tmp rfl]
    go_simp
  · have hb0 : (k == 0) = false := beq_eq_false_iff_ne.2 h0
    by_cases h1 : k = 1
    · subst h1
      have hO := ownsMat3 (w.alloc (.cells #[.slice (some ⟨w.heap.size + 1 + 1 + 1 + 1, 0, none⟩) 3 3] 46)) 2 1 1 2 (-2) 2 2 (-1) 3
      have hs : (w.alloc (.cells #[.slice (some ⟨w.heap.size + 1 + 1 + 1 + 1, 0, none⟩) 3 3] 46)).heap.size = w.heap.size + 1 := by simp
      have hc : (w.alloc (.cells #[.slice (some ⟨w.heap.size + 1 + 1 + 1 + 1, 0, none⟩) 3 3] 46)).cell? ⟨w.heap.size, 0, none⟩ = some (.slice (some ⟨w.heap.size + 1 + 1 + 1 + 1, 0, none⟩) 3 3) := by simp [go_sem]
      rw [hs] at hO
      have c0 := ((((Later.alloc (w.alloc (.cells #[.slice (some ⟨w.heap.size + 1 + 1 + 1 + 1, 0, none⟩) 3 3] 46)) (.cells #[.int .i64 2, .int .i64 1, .int .i64 1] 3)).trans (Later.alloc _ (.cells #[.int .i64 2, .int .i64 (-2), .int .i64 2] 3))).trans (Later.alloc _ (.cells #[.int .i64 2, .int .i64 (-1), .int .i64 3] 3))).trans (Later.alloc _ (.cells #[.slice (some ⟨w.heap.size + 1, 0, none⟩) 3 3, .slice (some ⟨w.heap.size + 1 + 1, 0, none⟩) 3 3, .slice (some ⟨w.heap.size + 1 + 1 + 1, 0, none⟩) 3 3] 26))).cell hc
      have HL := hid (((((Later.alloc w (.cells #[.slice (some ⟨w.heap.size + 1 + 1 + 1 + 1, 0, none⟩) 3 3] 46)).trans (Later.alloc (w.alloc (.cells #[.slice (some ⟨w.heap.size + 1 + 1 + 1 + 1, 0, none⟩) 3 3] 46)) (.cells #[.int .i64 2, .int .i64 1, .int .i64 1] 3))).trans (Later.alloc _ (.cells #[.int .i64 2, .int .i64 (-2), .int .i64 2] 3))).trans (Later.alloc _ (.cells #[.int .i64 2, .int .i64 (-1), .int .i64 3] 3))).trans (Later.alloc _ (.cells #[.slice (some ⟨w.heap.size + 1, 0, none⟩) 3 3, .slice (some ⟨w.heap.size + 1 + 1, 0, none⟩) 3 3, .slice (some ⟨w.heap.size + 1 + 1 + 1, 0, none⟩) 3 3] 26)))
      have HO := hid hO
      have HC := hid c0
      have HSZ := hid (show (((((w.alloc (.cells #[.slice (some ⟨w.heap.size + 1 + 1 + 1 + 1, 0, none⟩) 3 3] 46)).alloc (.cells #[.int .i64 2, .int .i64 1, .int .i64 1] 3)).alloc (.cells #[.int .i64 2, .int .i64 (-2), .int .i64 2] 3)).alloc (.cells #[.int .i64 2, .int .i64 (-1), .int .i64 3] 3)).alloc (.cells #[.slice (some ⟨w.heap.size + 1, 0, none⟩) 3 3, .slice (some ⟨w.heap.size + 1 + 1, 0, none⟩) 3 3, .slice (some ⟨w.heap.size + 1 + 1 + 1, 0, none⟩) 3 3] 26)).heap.size = w.heap.size + 1 + 4 by simp)
      clear hO hs hc c0
      go_enter Try.func40, Try.ntmps40
      go_wp2_with fail
      have c0 := HC.out
      generalize ((((w.alloc (.cells #[.slice (some ⟨w.heap.size + 1 + 1 + 1 + 1, 0, none⟩) 3 3] 46)).alloc (.cells #[.int .i64 2, .int .i64 1, .int .i64 1] 3)).alloc (.cells #[.int .i64 2, .int .i64 (-2), .int .i64 2] 3)).alloc (.cells #[.int .i64 2, .int .i64 (-1), .int .i64 3] 3)).alloc (.cells #[.slice (some ⟨w.heap.size + 1, 0, none⟩) 3 3, .slice (some ⟨w.heap.size + 1 + 1, 0, none⟩) 3 3, .slice (some ⟨w.heap.size + 1 + 1 + 1, 0, none⟩) 3 3] 26) = w4 at HO HL HC HSZ c0 ⊢
      refine bodyPost_ret (v := .tuple #[.agg #[.slice (some ⟨w.heap.size + 1 + 1 + 1 + 1, 0, none⟩) 3 3], .bool true]) ?_ rfl ⟨_, rfl, HO.out.wide (by omega) (by have := HSZ.out; omega), HL.out⟩
      rw [results_cell_tmp rfl]
      go_simp
    · have hb1 : (k == 1) = false := beq_eq_false_iff_ne.2 h1
      by_cases h2 : k = 2
      · subst h2
        have hO := ownsMat3 (w.alloc (.cells #[.slice (some ⟨w.heap.size + 1 + 1 + 1 + 1, 0, none⟩) 3 3] 46)) 2 (-1) 1 2 2 2 2 1 3
        have hs : (w.alloc (.cells #[.slice (some ⟨w.heap.size + 1 + 1 + 1 + 1, 0, none⟩) 3 3] 46)).heap.size = w.heap.size + 1 := by simp
        have hc : (w.alloc (.cells #[.slice (some ⟨w.heap.size + 1 + 1 + 1 + 1, 0, none⟩) 3 3] 46)).cell? ⟨w.heap.size, 0, none⟩ = some (.slice (some ⟨w.heap.size + 1 + 1 + 1 + 1, 0, none⟩) 3 3) := by simp [go_sem]
        rw [hs] at hO
        have c0 := ((((Later.alloc (w.alloc (.cells #[.slice (some ⟨w.heap.size + 1 + 1 + 1 + 1, 0, none⟩) 3 3] 46)) (.cells #[.int .i64 2, .int .i64 (-1), .int .i64 1] 3)).trans (Later.alloc _ (.cells #[.int .i64 2, .int .i64 2, .int .i64 2] 3))).trans (Later.alloc _ (.cells #[.int .i64 2, .int .i64 1, .int .i64 3] 3))).trans (Later.alloc _ (.cells #[.slice (some ⟨w.heap.size + 1, 0, none⟩) 3 3, .slice (some ⟨w.heap.size + 1 + 1, 0, none⟩) 3 3, .slice (some ⟨w.heap.size + 1 + 1 + 1, 0, none⟩) 3 3] 26))).cell hc
        have HL := hid (((((Later.alloc w (.cells #[.slice (some ⟨w.heap.size + 1 + 1 + 1 + 1, 0, none⟩) 3 3] 46)).trans (Later.alloc (w.alloc (.cells #[.slice (some ⟨w.heap.size + 1 + 1 + 1 + 1, 0, none⟩) 3 3] 46)) (.cells #[.int .i64 2, .int .i64 (-1), .int .i64 1] 3))).trans (Later.alloc _ (.cells #[.int .i64 2, .int .i64 2, .int .i64 2] 3))).trans (Later.alloc _ (.cells #[.int .i64 2, .int .i64 1, .int .i64 3] 3))).trans (Later.alloc _ (.cells #[.slice (some ⟨w.heap.size + 1, 0, none⟩) 3 3, .slice (some ⟨w.heap.size + 1 + 1, 0, none⟩) 3 3, .slice (some ⟨w.heap.size + 1 + 1 + 1, 0, none⟩) 3 3] 26)))
        have HO := hid hO
        have HC := hid c0
        have HSZ := hid (show (((((w.alloc (.cells #[.slice (some ⟨w.heap.size + 1 + 1 + 1 + 1, 0, none⟩) 3 3] 46)).alloc (.cells #[.int .i64 2, .int .i64 (-1), .int .i64 1] 3)).alloc (.cells #[.int .i64 2, .int .i64 2, .int .i64 2] 3)).alloc (.cells #[.int .i64 2, .int .i64 1, .int .i64 3] 3)).alloc (.cells #[.slice (some ⟨w.heap.size + 1, 0, none⟩) 3 3, .slice (some ⟨w.heap.size + 1 + 1, 0, none⟩) 3 3, .slice (some ⟨w.heap.size + 1 + 1 + 1, 0, none⟩) 3 3] 26)).heap.size = w.heap.size + 1 + 4 by simp)
        clear hO hs hc c0
        go_enter Try.func40, Try.ntmps40
        go_wp2_with fail
        have c0 := HC.out
        generalize ((((w.alloc (.cells #[.slice (some ⟨w.heap.size + 1 + 1 + 1 + 1, 0, none⟩) 3 3] 46)).alloc (.cells #[.int .i64 2, .int .i64 (-1), .int .i64 1] 3)).alloc (.cells #[.int .i64 2, .int .i64 2, .int .i64 2] 3)).alloc (.cells #[.int .i64 2, .int .i64 1, .int .i64 3] 3)).alloc (.cells #[.slice (some ⟨w.heap.size + 1, 0, none⟩) 3 3, .slice (some ⟨w.heap.size + 1 + 1, 0, none⟩) 3 3, .slice (some ⟨w.heap.size + 1 + 1 + 1, 0, none⟩) 3 3] 26) = w4 at HO HL HC HSZ c0 ⊢
        refine bodyPost_ret (v := .tuple #[.agg #[.slice (some ⟨w.heap.size + 1 + 1 + 1 + 1, 0, none⟩) 3 3], .bool true]) ?_ rfl ⟨_, rfl, HO.out.wide (by omega) (by have := HSZ.out; omega), HL.out⟩
        rw [results_cell_tmp rfl]
        go_simp
      · have hb2 : (k == 2) = false := beq_eq_false_iff_ne.2 h2
        have HA := hid (show priceM k = none by unfold priceM; rw [if_neg h0, if_neg h1, if_neg h2])
        have HL := hid (Later.alloc w (.cells #[.slice none 0 0] 46))
        go_enter Try.func40, Try.ntmps40
        go_wp2_with fail
        have c0 : (w.alloc (.cells #[.slice none 0 0] 46)).cell? ⟨w.heap.size, 0, none⟩ = some (.slice none 0 0) := by simp [go_sem]
        generalize w.alloc (.cells #[.slice none 0 0] 46) = w4 at HL c0 ⊢
        refine bodyPost_ret (v := .tuple #[.agg #[.slice none 0 0], .bool false]) ?_ rfl ⟨_, by rw [HA.out]; rfl, by rw [HA.out]; exact OwnRows.empty _ _ _, HL.out⟩
        rw [results_cell_tmp rfl]
        go_simp
end Go.Proofs.Ytdahhcigphhfdac
