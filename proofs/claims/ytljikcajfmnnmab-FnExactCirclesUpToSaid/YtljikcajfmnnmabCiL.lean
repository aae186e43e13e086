/- Circles: what the laws do with one. -/
import Derived.Test.YtljikcajfmnnmabCiM
import Derived.Test.YtljikcajfmnnmabRgH
import Derived.Deep.DeepCutAuto
namespace Go.Proofs.Ytljikcajfmnnmab
open Go.RowKit

theorem wp_region_quiet_laterH {P : Program} {id : Nat} {Q : Exit → Act → World → Prop} {a : Act} {w : World} {l : List Oper} (hm : P.follows .mixedOrders = true) (hB : Region.lexB .any l.toArray = true)
    (h : wpQuiet P l.toArray (fun w' => ∃ p : LaterH w, w' = p.now) (fun a' => ∀ w', (∃ p : LaterH w, w' = p.now) → Q .normal a' w') l a) : (Code.region id l.toArray true).wp P Q a w :=
  wp_region_quiet (C := fun w' => ∃ p : LaterH w, w' = p.now) hm hB ⟨⟨w.drew, Later.drew w⟩, rfl⟩ (by simpa using h)
set_option maxRecDepth 20000 in
set_option maxHeartbeats 2000000 in
theorem toCircle_any (a b x y : Int) (w : World) :
    Calls Try.prog 39 #[.agg #[.int .i64 a, .int .i64 b, .int .i64 x, .int .i64 y]] w fun e w' => CiRes w (a, b, x, y) e w' := by
  have HL := hid (((Later.alloc w (.cells #[.int .i64 a, .int .i64 b, .int .i64 x, .int .i64 y] 55)).trans (Later.alloc _ (.cells #[.int .i64 a, .int .i64 b, .int .i64 x, .int .i64 y] 50))).trans (Later.alloc _ (.cells #[.int .i64 a, .int .i64 b, .int .i64 x, .int .i64 y] 50)))
  have HC := hid ((CBox.new (w.alloc (.cells #[.int .i64 a, .int .i64 b, .int .i64 x, .int .i64 y] 55)) a b x y 50).later (Later.alloc _ (.cells #[.int .i64 a, .int .i64 b, .int .i64 x, .int .i64 y] 50)))
  rw [show (w.alloc (.cells #[.int .i64 a, .int .i64 b, .int .i64 x, .int .i64 y] 55)).heap.size = w.heap.size + 1 by simp] at HC
  go_enter Try.func39, Try.ntmps39
  go_wp2_with fail
  generalize ((w.alloc (.cells #[.int .i64 a, .int .i64 b, .int .i64 x, .int .i64 y] 55)).alloc (.cells #[.int .i64 a, .int .i64 b, .int .i64 x, .int .i64 y] 50)).alloc (.cells #[.int .i64 a, .int .i64 b, .int .i64 x, .int .i64 y] 50) = w3 at HL HC ⊢
  obtain ⟨c0, c1, c2, c3⟩ := HC.out
  refine bodyPost_ret (v := .agg #[.int .i64 a, .int .i64 b, .int .i64 x, .int .i64 y]) ?_ rfl ⟨rfl, HL.out⟩
  rw [results_cellC rfl]
  go_simp
theorem ci_ne {c d : Ci4} : decide (c = d) = (decide (c.1 = d.1) && decide (c.2.1 = d.2.1) && decide (c.2.2.1 = d.2.2.1) && decide (c.2.2.2 = d.2.2.2)) := by
  obtain ⟨a, b, x, y⟩ := c
  obtain ⟨p, q, r, s⟩ := d
  rw [Bool.eq_iff_iff]
  simp [and_assoc]
set_option maxRecDepth 20000 in
set_option maxHeartbeats 2000000 in
theorem eqCircle_any (a b x y p q r s : Int) (w : World) :
    Calls Try.prog 36 #[.agg #[.int .i64 a, .int .i64 b, .int .i64 x, .int .i64 y], .agg #[.int .i64 p, .int .i64 q, .int .i64 r, .int .i64 s]] w fun e w' => BoolRes w (decide (((a, b, x, y) : Ci4) = (p, q, r, s))) e w' := by
  have HL := hid ((Later.alloc w (.cells #[.int .i64 a, .int .i64 b, .int .i64 x, .int .i64 y] 50)).trans (Later.alloc _ (.cells #[.int .i64 p, .int .i64 q, .int .i64 r, .int .i64 s] 50)))
  rw [ci_ne]
  simp only
  by_cases h0 : a = p
  · have b0 : (a != p) = false := by simp [h0]
    by_cases h1 : b = q
    · have b1 : (b != q) = false := by simp [h1]
      by_cases h2 : x = r
      · have b2 : (x != r) = false := by simp [h2]
        by_cases h3 : y = s
        · have b3 : (y != s) = false := by simp [h3]
          rw [decide_eq_true h0, decide_eq_true h1, decide_eq_true h2, decide_eq_true h3]
          clear h0 h1 h2 h3
          go_enter Try.func36, Try.ntmps36
          go_wp2_with fail
          go_ret
          exact ⟨rfl, HL.out⟩
        · have b3 : (y != s) = true := by simp [h3]
          rw [decide_eq_false h3, Bool.and_false]
          clear h0 h1 h2 h3
          go_enter Try.func36, Try.ntmps36
          go_wp2_with fail
          go_ret
          exact ⟨rfl, HL.out⟩
      · have b2 : (x != r) = true := by simp [h2]
        rw [decide_eq_false h2, Bool.and_false, Bool.false_and]
        clear h0 h1 h2
        go_enter Try.func36, Try.ntmps36
        go_wp2_with fail
        go_ret
        exact ⟨rfl, HL.out⟩
    · have b1 : (b != q) = true := by simp [h1]
      rw [decide_eq_false h1, Bool.and_false, Bool.false_and, Bool.false_and]
      clear h0 h1
      go_enter Try.func36, Try.ntmps36
      go_wp2_with fail
      go_ret
      exact ⟨rfl, HL.out⟩
  · have b0 : (a != p) = true := by simp [h0]
    rw [decide_eq_false h0, Bool.false_and, Bool.false_and, Bool.false_and]
    clear h0
    go_enter Try.func36, Try.ntmps36
    go_wp2_with fail
    go_ret
    exact ⟨rfl, HL.out⟩
theorem eqCircle_self (a b x y : Int) (w : World) :
    Calls Try.prog 36 #[.agg #[.int .i64 a, .int .i64 b, .int .i64 x, .int .i64 y], .agg #[.int .i64 a, .int .i64 b, .int .i64 x, .int .i64 y]] w fun e w' => BoolRes w true e w' := by
  have := eqCircle_any a b x y a b x y w
  rwa [decide_eq_true rfl] at this
end Go.Proofs.Ytljikcajfmnnmab
