/- Circles: what the laws do with one. -/
import Derived.Test.YtcilfeibpnijcaaDoorCiM
import Derived.Test.YtcilfeibpnijcaaDoorRgH
import Derived.Deep.DeepCutAuto
namespace Go.Proofs.YtcilfeibpnijcaaDoor
open Go.RowKit

theorem wp_region_quiet_laterH {P : Program} {id : Nat} {Q : Exit → Act → World → Prop} {a : Act} {w : World} {l : List Oper} (hm : P.follows .mixedOrders = true) (hB : Region.lexB .any l.toArray = true)
    (h : wpQuiet P l.toArray (fun w' => ∃ p : LaterH w, w' = p.now) (fun a' => ∀ w', (∃ p : LaterH w, w' = p.now) → Q .normal a' w') l a) : (Code.region id l.toArray true).wp P Q a w :=
  wp_region_quiet (C := fun w' => ∃ p : LaterH w, w' = p.now) hm hB ⟨⟨w.drew, Later.drew w⟩, rfl⟩ (by simpa using h)
set_option maxRecDepth 20000 in
set_option maxHeartbeats 2000000 in
theorem toCircle_any (a b x y : Int) (w : World) :
    Calls Tryd.prog 5 #[.agg #[.int .i64 a, .int .i64 b, .int .i64 x, .int .i64 y]] w fun e w' => CiRes w (a, b, x, y) e w' := by
  have HL := hid (((Later.alloc w (.cells #[.int .i64 a, .int .i64 b, .int .i64 x, .int .i64 y] 23)).trans (Later.alloc _ (.cells #[.int .i64 a, .int .i64 b, .int .i64 x, .int .i64 y] 26))).trans (Later.alloc _ (.cells #[.int .i64 a, .int .i64 b, .int .i64 x, .int .i64 y] 26)))
  have HC := hid ((CBox.new (w.alloc (.cells #[.int .i64 a, .int .i64 b, .int .i64 x, .int .i64 y] 23)) a b x y 26).later (Later.alloc _ (.cells #[.int .i64 a, .int .i64 b, .int .i64 x, .int .i64 y] 26)))
  rw [show (w.alloc (.cells #[.int .i64 a, .int .i64 b, .int .i64 x, .int .i64 y] 23)).heap.size = w.heap.size + 1 by simp] at HC
  go_enter Tryd.func5, Tryd.ntmps5
  go_wp2_with fail
  generalize ((w.alloc (.cells #[.int .i64 a, .int .i64 b, .int .i64 x, .int .i64 y] 23)).alloc (.cells #[.int .i64 a, .int .i64 b, .int .i64 x, .int .i64 y] 26)).alloc (.cells #[.int .i64 a, .int .i64 b, .int .i64 x, .int .i64 y] 26) = w3 at HL HC ⊢
  obtain ⟨c0, c1, c2, c3⟩ := HC.out
  refine bodyPost_ret (v := .agg #[.int .i64 a, .int .i64 b, .int .i64 x, .int .i64 y]) ?_ rfl ⟨rfl, HL.out⟩
  rw [results_cellC rfl]
  go_simp
theorem ci_ne {c d : Ci4} : decide (c = d) = (decide (c.1 = d.1) && decide (c.2.1 = d.2.1) && decide (c.2.2.1 = d.2.2.1) && decide (c.2.2.2 = d.2.2.2)) := by
  obtain ⟨a, b, x, y⟩ := c
  obtain ⟨p, q, r, s⟩ := d
  rw [Bool.eq_iff_iff]
  simp [and_assoc]
end Go.Proofs.YtcilfeibpnijcaaDoor
