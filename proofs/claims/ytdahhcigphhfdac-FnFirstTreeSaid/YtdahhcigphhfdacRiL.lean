/- Right triples in the program: trees, parents of triples, words. -/
import Derived.Test.YtdahhcigphhfdacRiK
namespace Go.Proofs.Ytdahhcigphhfdac
open Go.RowKit

structure Box12 (w : World) (b : Nat) (s0 s1 s2 : St) : Prop where
  k0 : w.cell? ⟨b, 0, none⟩ = some (.int .i64 s0.a)
  k1 : w.cell? ⟨b, 1, none⟩ = some (.int .i64 s0.b)
  k2 : w.cell? ⟨b, 2, none⟩ = some (.int .i64 s0.c)
  k3 : w.cell? ⟨b, 3, none⟩ = some (.int .i64 s0.d)
  k4 : w.cell? ⟨b, 4, none⟩ = some (.int .i64 s1.a)
  k5 : w.cell? ⟨b, 5, none⟩ = some (.int .i64 s1.b)
  k6 : w.cell? ⟨b, 6, none⟩ = some (.int .i64 s1.c)
  k7 : w.cell? ⟨b, 7, none⟩ = some (.int .i64 s1.d)
  k8 : w.cell? ⟨b, 8, none⟩ = some (.int .i64 s2.a)
  k9 : w.cell? ⟨b, 9, none⟩ = some (.int .i64 s2.b)
  k10 : w.cell? ⟨b, 10, none⟩ = some (.int .i64 s2.c)
  k11 : w.cell? ⟨b, 11, none⟩ = some (.int .i64 s2.d)
theorem Box12.later {w w' : World} {b : Nat} {s0 s1 s2 : St} (h : Box12 w b s0 s1 s2) (k : Later w w') : Box12 w' b s0 s1 s2 := ⟨k.cell h.k0, k.cell h.k1, k.cell h.k2, k.cell h.k3, k.cell h.k4, k.cell h.k5, k.cell h.k6, k.cell h.k7, k.cell h.k8, k.cell h.k9, k.cell h.k10, k.cell h.k11⟩
theorem Box12.new (w : World) (s0 s1 s2 : St) (ty : TypeId) : Box12 (w.alloc (.cells (tree3 s0 s1 s2).toArray ty)) w.heap.size s0 s1 s2 := by
  unfold tree3
  constructor <;> simp [go_sem]
section
variable {T : Nat → St} {C : Int → Int → Int → Int × Int} {U : Int → Int → Int × Int × Int}
theorem Tree.small (t : Tree T C U) (k : Nat) : Small (T k) := by
  obtain ⟨h1, h2, h3, h4, h5, h6, h7, h8⟩ := t.ent k
  exact ⟨h1, h2, h3, h4, h5, h6, h7, h8⟩
theorem Tree.good (t : Tree T C U) : Good3 (T 0) (T 1) (T 2) := ⟨t.small 0, t.small 1, t.small 2, t.det 0, t.det 1, t.det 2⟩
theorem Tree.par_none (t : Tree T C U) {m n : Int} (hm : m ≤ 2) : parV (T 0) (T 1) (T 2) m n = parNone := by
  unfold parV
  rw [t.none hm 0 (by omega), t.none hm 1 (by omega), t.none hm 2 (by omega)]
  simp
theorem Tree.par_some (t : Tree T C U) {m n : Int} (h : Pair m n) (hm : 2 < m) :
    parV (T 0) (T 1) (T 2) m n = .tuple #[.agg #[.int .i64 (U m n).1, .int .i64 (U m n).2.1], .int .i64 (U m n).2.2, .bool true] := by
  obtain ⟨k, hk, h1, h2, h3, h4⟩ := t.some h hm
  have hk3 : k = 0 ∨ k = 1 ∨ k = 2 := by omega
  unfold parV parOf
  rcases hk3 with rfl | rfl | rfl
  · rw [if_pos h3, h2, h1]; rfl
  · rw [if_neg (by rw [h4 0 (by omega)]; simp), if_pos h3, h2, h1]; rfl
  · rw [if_neg (by rw [h4 0 (by omega)]; simp), if_neg (by rw [h4 1 (by omega)]; simp), if_pos h3, h2, h1]; rfl
end

set_option maxRecDepth 20000 in
set_option maxHeartbeats 2000000 in
theorem bergTree_any (w : World) : Calls Try.prog 76 #[] w fun e w' => e = .returned (.agg (tree3 (bergT 0) (bergT 1) (bergT 2)).toArray) ∧ Later w w' := by
  have HE := hid (show Value.agg (tree3 (bergT 0) (bergT 1) (bergT 2)).toArray = .agg #[.int .i64 2, .int .i64 (-1), .int .i64 1, .int .i64 0, .int .i64 2, .int .i64 1, .int .i64 1, .int .i64 0, .int .i64 1, .int .i64 2, .int .i64 0, .int .i64 1] from rfl)
  have HL := hid (Later.alloc w (.cells #[.int .i64 2, .int .i64 (-1), .int .i64 1, .int .i64 0, .int .i64 2, .int .i64 1, .int .i64 1, .int .i64 0, .int .i64 1, .int .i64 2, .int .i64 0, .int .i64 1] 86))
  have HB := hid (Box12.new w (bergT 0) (bergT 1) (bergT 2) 86)
  go_enter Try.func76, Try.ntmps76
  go_wp2_with fail
  have hb : Box12 (w.alloc (.cells #[.int .i64 2, .int .i64 (-1), .int .i64 1, .int .i64 0, .int .i64 2, .int .i64 1, .int .i64 1, .int .i64 0, .int .i64 1, .int .i64 2, .int .i64 0, .int .i64 1] 86)) w.heap.size (bergT 0) (bergT 1) (bergT 2) := HB.out
  generalize w.alloc (.cells #[.int .i64 2, .int .i64 (-1), .int .i64 1, .int .i64 0, .int .i64 2, .int .i64 1, .int .i64 1, .int .i64 0, .int .i64 1, .int .i64 2, .int .i64 0, .int .i64 1] 86) = w1 at HL hb ⊢
  obtain ⟨k0, k1, k2, k3, k4, k5, k6, k7, k8, k9, k10, k11⟩ := hb
  simp only [bergT] at k0 k1 k2 k3 k4 k5 k6 k7 k8 k9 k10 k11
  clear HB
  refine bodyPost_ret (v := .agg #[.int .i64 2, .int .i64 (-1), .int .i64 1, .int .i64 0, .int .i64 2, .int .i64 1, .int .i64 1, .int .i64 0, .int .i64 1, .int .i64 2, .int .i64 0, .int .i64 1]) ?_ rfl ⟨by rw [HE.out], HL.out⟩
  rw [results_cellR rfl]
  go_simp

set_option maxRecDepth 20000 in
set_option maxHeartbeats 2000000 in
theorem priceTree_any (w : World) : Calls Try.prog 94 #[] w fun e w' => e = .returned (.agg (tree3 (priceT 0) (priceT 1) (priceT 2)).toArray) ∧ Later w w' := by
  have HE := hid (show Value.agg (tree3 (priceT 0) (priceT 1) (priceT 2)).toArray = .agg #[.int .i64 1, .int .i64 1, .int .i64 0, .int .i64 2, .int .i64 2, .int .i64 0, .int .i64 1, .int .i64 (-1), .int .i64 2, .int .i64 0, .int .i64 1, .int .i64 1] from rfl)
  have HL := hid (Later.alloc w (.cells #[.int .i64 1, .int .i64 1, .int .i64 0, .int .i64 2, .int .i64 2, .int .i64 0, .int .i64 1, .int .i64 (-1), .int .i64 2, .int .i64 0, .int .i64 1, .int .i64 1] 86))
  have HB := hid (Box12.new w (priceT 0) (priceT 1) (priceT 2) 86)
  go_enter Try.func94, Try.ntmps94
  go_wp2_with fail
  have hb : Box12 (w.alloc (.cells #[.int .i64 1, .int .i64 1, .int .i64 0, .int .i64 2, .int .i64 2, .int .i64 0, .int .i64 1, .int .i64 (-1), .int .i64 2, .int .i64 0, .int .i64 1, .int .i64 1] 86)) w.heap.size (priceT 0) (priceT 1) (priceT 2) := HB.out
  generalize w.alloc (.cells #[.int .i64 1, .int .i64 1, .int .i64 0, .int .i64 2, .int .i64 2, .int .i64 0, .int .i64 1, .int .i64 (-1), .int .i64 2, .int .i64 0, .int .i64 1, .int .i64 1] 86) = w1 at HL hb ⊢
  obtain ⟨k0, k1, k2, k3, k4, k5, k6, k7, k8, k9, k10, k11⟩ := hb
  simp only [priceT] at k0 k1 k2 k3 k4 k5 k6 k7 k8 k9 k10 k11
  clear HB
  refine bodyPost_ret (v := .agg #[.int .i64 1, .int .i64 1, .int .i64 0, .int .i64 2, .int .i64 2, .int .i64 0, .int .i64 1, .int .i64 (-1), .int .i64 2, .int .i64 0, .int .i64 1, .int .i64 1]) ?_ rfl ⟨by rw [HE.out], HL.out⟩
  rw [results_cellR rfl]
  go_simp
end Go.Proofs.Ytdahhcigphhfdac
