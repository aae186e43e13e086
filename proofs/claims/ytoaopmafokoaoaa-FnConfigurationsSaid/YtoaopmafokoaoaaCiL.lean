/- Circles: what the laws do with one. -/
import Derived.Test.YtoaopmafokoaoaaCiM
import Derived.Test.YtoaopmafokoaoaaRgH
import Derived.Deep.DeepCutAuto
namespace Go.Proofs.Ytoaopmafokoaoaa
open Go.RowKit

theorem wp_region_quiet_laterH {P : Program} {id : Nat} {Q : Exit → Act → World → Prop} {a : Act} {w : World} {l : List Oper} (hm : P.follows .mixedOrders = true) (hB : Region.lexB .any l.toArray = true)
    (h : wpQuiet P l.toArray (fun w' => ∃ p : LaterH w, w' = p.now) (fun a' => ∀ w', (∃ p : LaterH w, w' = p.now) → Q .normal a' w') l a) : (Code.region id l.toArray true).wp P Q a w :=
  wp_region_quiet (C := fun w' => ∃ p : LaterH w, w' = p.now) hm hB ⟨⟨w.drew, Later.drew w⟩, rfl⟩ (by simpa using h)
theorem ci_ne {c d : Ci4} : decide (c = d) = (decide (c.1 = d.1) && decide (c.2.1 = d.2.1) && decide (c.2.2.1 = d.2.2.1) && decide (c.2.2.2 = d.2.2.2)) := by
  obtain ⟨a, b, x, y⟩ := c
  obtain ⟨p, q, r, s⟩ := d
  rw [Bool.eq_iff_iff]
  simp [and_assoc]
end Go.Proofs.Ytoaopmafokoaoaa
