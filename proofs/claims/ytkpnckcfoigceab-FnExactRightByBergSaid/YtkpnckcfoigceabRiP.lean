/- Right triples in the program: steps, trees, children. -/
import Derived.Test.YtkpnckcfoigceabRiQ
import Derived.Test.YtkpnckcfoigceabRiC
import Derived.Test.YtkpnckcfoigceabRgH
import Derived.Deep.DeepCutAuto
namespace Go.Proofs.Ytkpnckcfoigceab
open Go.RowKit

theorem results_cellR {fn : Func} {p : Tmp} {ty : TypeId} (h : fn.results = #[.cell p ty]) (tmps : Array Value) (P : Program) (w : World) :
    (results fn tmps).run P w = ((asAddr (tmps.getD p undef)).run P w).andThen fun a w₁ => (loadVar ty a).run P w₁ := by
  simp only [results, h]
  simp [Sem.run_bind, Result.andThen]
def stV (s : St) : List Value := [.int .i64 s.a, .int .i64 s.b, .int .i64 s.c, .int .i64 s.d]
def treeV (T : Nat → St) : List Value := stV (T 0) ++ stV (T 1) ++ stV (T 2)
structure Small (s : St) : Prop where
  a1 : -2 ≤ s.a
  a2 : s.a ≤ 2
  b1 : -2 ≤ s.b
  b2 : s.b ≤ 2
  c1 : -2 ≤ s.c
  c2 : s.c ≤ 2
  d1 : -2 ≤ s.d
  d2 : s.d ≤ 2
theorem small_mul {a m : Int} {B : Int} (h1 : -2 ≤ a) (h2 : a ≤ 2) (h3 : -B ≤ m) (h4 : m ≤ B) (hB : 0 ≤ B) : -(2 * B) ≤ a * m ∧ a * m ≤ 2 * B := by
  have ha : a = -2 ∨ a = -1 ∨ a = 0 ∨ a = 1 ∨ a = 2 := by omega
  rcases ha with rfl | rfl | rfl | rfl | rfl <;> omega

set_option maxRecDepth 20000 in
set_option maxHeartbeats 2000000 in
theorem childP_any (m n : Int) (s : St) (hs : Small s) (w : World) (hm : -1000000 ≤ m ∧ m ≤ 1000000) (hn : -1000000 ≤ n ∧ n ≤ 1000000) :
    Calls Try.prog 30 #[.agg #[.int .i64 m, .int .i64 n], .agg (stV s).toArray] w fun e w' => e = .returned (.agg #[.int .i64 (kid s m n).1, .int .i64 (kid s m n).2]) ∧ Later w w' := by
  obtain ⟨a, b, c, d⟩ := s
  obtain ⟨x1, x2⟩ := small_mul hs.a1 hs.a2 hm.1 hm.2 (by omega)
  obtain ⟨x3, x4⟩ := small_mul hs.b1 hs.b2 hn.1 hn.2 (by omega)
  obtain ⟨x5, x6⟩ := small_mul hs.c1 hs.c2 hm.1 hm.2 (by omega)
  obtain ⟨x7, x8⟩ := small_mul hs.d1 hs.d2 hn.1 hn.2 (by omega)
  simp only at x1 x2 x3 x4 x5 x6 x7 x8
  unfold stV kid
  simp only
  have HL := hid (((Later.alloc w (.cells #[.int .i64 m, .int .i64 n] 47)).trans (Later.alloc _ (.cells #[.int .i64 a, .int .i64 b, .int .i64 c, .int .i64 d] 37))).trans (Later.alloc _ (.cells #[.int .i64 (a * m + b * n), .int .i64 (c * m + d * n)] 47)))
  clear hs hm hn
  go_enter Try.func30, Try.ntmps30
  go_wp2_with fail
  have r0 : (((w.alloc (.cells #[.int .i64 m, .int .i64 n] 47)).alloc (.cells #[.int .i64 a, .int .i64 b, .int .i64 c, .int .i64 d] 37)).alloc (.cells #[.int .i64 (a * m + b * n), .int .i64 (c * m + d * n)] 47)).cell? ⟨w.heap.size + 1 + 1, 0, none⟩ = some (.int .i64 (a * m + b * n)) := by simp [go_sem]
  have r1 : (((w.alloc (.cells #[.int .i64 m, .int .i64 n] 47)).alloc (.cells #[.int .i64 a, .int .i64 b, .int .i64 c, .int .i64 d] 37)).alloc (.cells #[.int .i64 (a * m + b * n), .int .i64 (c * m + d * n)] 47)).cell? ⟨w.heap.size + 1 + 1, 1, none⟩ = some (.int .i64 (c * m + d * n)) := by simp [go_sem]
  generalize ((w.alloc (.cells #[.int .i64 m, .int .i64 n] 47)).alloc (.cells #[.int .i64 a, .int .i64 b, .int .i64 c, .int .i64 d] 37)).alloc (.cells #[.int .i64 (a * m + b * n), .int .i64 (c * m + d * n)] 47) = w3 at HL r0 r1 ⊢
  refine bodyPost_ret (v := .agg #[.int .i64 (a * m + b * n), .int .i64 (c * m + d * n)]) ?_ rfl ⟨rfl, HL.out⟩
  rw [results_cellR rfl]
  go_simp

theorem stV_alloc (w : World) (a b c d : Int) (ty : TypeId) : (w.alloc (.cells #[.int .i64 a, .int .i64 b, .int .i64 c, .int .i64 d] ty)).cell? ⟨w.heap.size, 0, none⟩ = some (.int .i64 a) ∧ (w.alloc (.cells #[.int .i64 a, .int .i64 b, .int .i64 c, .int .i64 d] ty)).cell? ⟨w.heap.size, 1, none⟩ = some (.int .i64 b) ∧ (w.alloc (.cells #[.int .i64 a, .int .i64 b, .int .i64 c, .int .i64 d] ty)).cell? ⟨w.heap.size, 2, none⟩ = some (.int .i64 c) ∧ (w.alloc (.cells #[.int .i64 a, .int .i64 b, .int .i64 c, .int .i64 d] ty)).cell? ⟨w.heap.size, 3, none⟩ = some (.int .i64 d) := by simp [go_sem]
theorem tdiv_bd {x D B : Int} (h1 : -B ≤ x) (h2 : x ≤ B) : -B ≤ x.tdiv D ∧ x.tdiv D ≤ B := by
  have h : (x.tdiv D).natAbs ≤ x.natAbs := by rw [Int.natAbs_tdiv]; exact Nat.div_le_self _ _
  omega
/-- What 'before' answers. -/
def befV (s : St) (m n : Int) : Value := .tuple #[.agg #[.int .i64 (bef s m n).1, .int .i64 (bef s m n).2], .bool (okB s m n)]

end Go.Proofs.Ytkpnckcfoigceab
