/- The walk of the law FnExactFirstDesk. -/
import Derived.Test.YtofmmegpadojlabDkB
import Derived.Deep.DeepCutAuto
namespace Go.Proofs.Ytofmmegpadojlab
open Go.RowKit

def DkF (w : World) (e : Ending) (w' : World) : Prop := ∃ p1 k1 p2 k2 mid, e = .returned (.agg #[.slice p1 3 k1, .slice p2 4 k2]) ∧ w.heap.size ≤ mid ∧ mid ≤ w'.heap.size ∧ OwnInts w.heap.size mid w' (.slice p1 3 k1) [1, 1, 1] ∧ OwnInts mid w'.heap.size w' (.slice p2 4 k2) [-1, 2, 2, 3] ∧ Later w w'
theorem specFirst_any (w : World) : Calls Try.prog 30 #[] w fun e w' => DkF w e w' := specFirstDesk_any w
theorem implFirst_any (w : World) : Calls Try.prog 31 #[] w fun e w' => DkF w e w' := implFirstDesk_any w
theorem Box2.keep {w w' : World} {B : Nat} {x y : Value} (h : Box2 w B x y) (k : w'.heap[B]? = w.heap[B]?) : Box2 w' B x y :=
  ⟨cell_keep h.c0 k, cell_keep h.c1 k, (World.frozen?_of_block k).trans h.f0, (World.frozen?_of_block k).trans h.f1⟩
theorem Box2.lt {w : World} {B : Nat} {x y : Value} (h : Box2 w B x y) : B < w.heap.size := World.block_lt_of_cell? w ⟨B, 0, none⟩ h.c0
set_option maxRecDepth 20000 in
set_option maxHeartbeats 4000000 in
theorem lawFirstDesk_walk (w : World) : Calls Try.prog 5 #[] w fun e w' => e = .returned (.bool true) ∧ Later w w' := by
  go_enter Try.func5, Try.ntmps5
  go_wp2_with fail
  refine (specFirst_any _).mono ?_
  rintro e w1 ⟨p1, k1, p2, k2, m1, rfl, ha1, hb1, hO1, hP1, hL1⟩
  have HB1 := hid (Box2.new w1 (.slice p1 3 k1) (.slice p2 4 k2) 46)
  have hA := Later.alloc w1 (.cells #[.slice p1 3 k1, .slice p2 4 k2] 46)
  have HL1 := hid (hL1.trans hA)
  have HO1 := hid (hO1.later hA)
  have HP1 := hid (hP1.later hA)
  have HS1 := hid (And.intro hL1.size (And.intro ha1 (And.intro hb1 hA.size)))
  clear hO1 hP1 hL1 ha1 hb1 hA
  go_wp2_with fail
  have hsz : (w1.alloc (.cells #[.slice p1 3 k1, .slice p2 4 k2] 46)).heap.size = w1.heap.size + 1 := by simp
  generalize w1.alloc (.cells #[.slice p1 3 k1, .slice p2 4 k2] 46) = W1 at HB1 HL1 HO1 HP1 HS1 hsz ⊢
  have HZ1 := hid hsz
  clear hsz
  refine (implFirst_any _).mono ?_
  rintro e w2 ⟨q1, j1, q2, j2, m2, rfl, ha2, hb2, hO2, hP2, hL2⟩
  have HB2 := hid (Box2.new w2 (.slice q1 3 j1) (.slice q2 4 j2) 46)
  have hA := Later.alloc w2 (.cells #[.slice q1 3 j1, .slice q2 4 j2] 46)
  have HL2 := hid (HL1.out.trans (hL2.trans hA))
  have HO2 := hid (hO2.later hA)
  have HP2 := hid (hP2.later hA)
  have HB1 := hid (HB1.out.later (hL2.trans hA))
  have HO1 := hid (HO1.out.later (hL2.trans hA))
  have HP1 := hid (HP1.out.later (hL2.trans hA))
  have HS2 := hid (And.intro hL2.size (And.intro ha2 (And.intro hb2 hA.size)))
  clear hO2 hP2 hL2 ha2 hb2 hA HL1
  go_upto_region 3 with fail
  have c := HB1.out
  have d := HB2.out
  generalize w2.alloc (.cells #[.slice q1 3 j1, .slice q2 4 j2] 46) = W2 at HB1 HL2 HO1 HP1 HS2 HB2 HO2 HP2 c d ⊢
  obtain ⟨c0, c1, _, _⟩ := c
  obtain ⟨d0, d1, _, _⟩ := d
  go_wp2_with fail
  refine (eqDesk_same _ _ _ _ [1, 1, 1] [-1, 2, 2, 3] W2 HO2.out.ints HP2.out.ints HO1.out.ints HP1.out.ints).mono ?_
  rintro e w3 ⟨rfl, hL3⟩
  have HB1 := hid (HB1.out.later hL3)
  have HB2 := hid (HB2.out.later hL3)
  have HO1 := hid (HO1.out.later hL3)
  have HP1 := hid (HP1.out.later hL3)
  have HO2 := hid (HO2.out.later hL3)
  have HP2 := hid (HP2.out.later hL3)
  have HL3 := hid (HL2.out.trans hL3)
  have HS3 := hid hL3.size
  clear hL3 HL2 c0 c1 d0 d1
  obtain ⟨d0, d1, _, _⟩ := HB2.out
  go_wp2_with fail
  refine (markDesk_any W1.heap.size m2 w2.heap.size _ _ [1, 1, 1] [-1, 2, 2, 3] 1 w3 (by omega) (by simp) (by simp) HS2.out.2.1 HS2.out.2.2.1 (by have := HS2.out; have := HS3.out; omega) HO2.out HP2.out).mono ?_
  rintro e w4 ⟨rfl, hO4, hP4, hk, hsz, hLb⟩
  have HO4 := hid hO4
  have HP4 := hid hP4
  have HL4 := hid (hLb w HL3.out (by have := HS1.out; omega))
  have HB1 := hid (HB1.out.keep (hk _ HB1.out.lt (by have := HZ1.out; omega)))
  have HB2 := hid (HB2.out.keep (hk _ HB2.out.lt (by omega)))
  have HO1 := hid (HO1.out.keep fun b b1 b2 => hk b (by have := HS1.out; have := HS2.out; have := HS3.out; omega) (by have := HS1.out; omega))
  have HP1 := hid (HP1.out.keep fun b b1 b2 => hk b (by have := HS1.out; have := HS2.out; have := HS3.out; omega) (by have := HS1.out; omega))
  clear hO4 hP4 hk hsz hLb d0 d1 HO2 HP2
  rw [show (1 : Int) + (([1, 1, 1] : List Int).length : Int) + (([-1, 2, 2, 3] : List Int).length : Int) = 8 from rfl]
  obtain ⟨d0, d1, _, _⟩ := HB2.out
  go_wp2_with fail
  refine (heldDesk_any _ _ 3 4 1 w4 (by omega) (by omega) (by omega) HO4.out.ints HP4.out.ints).mono ?_
  rintro e w5 ⟨rfl, hL5⟩
  rw [show (1 : Int) + ((3 : Nat) : Int) + ((4 : Nat) : Int) = 8 from rfl]
  have HO5 := hid (HO4.out.later hL5)
  have HP5 := hid (HP4.out.later hL5)
  have HB1 := hid (HB1.out.later hL5)
  have HB2 := hid (HB2.out.later hL5)
  have HO1 := hid (HO1.out.later hL5)
  have HP1 := hid (HP1.out.later hL5)
  have HL5 := hid (HL4.out.trans hL5)
  clear hL5 d0 d1
  go_wp2_with fail
  refine (implFirst_any _).mono ?_
  rintro e w6 ⟨r1, l1, r2, l2, m6, rfl, ha6, hb6, hO6, hP6, hL6⟩
  have HB6 := hid (Box2.new w6 (.slice r1 3 l1) (.slice r2 4 l2) 46)
  have hA := Later.alloc w6 (.cells #[.slice r1 3 l1, .slice r2 4 l2] 46)
  have HL6 := hid (HL5.out.trans (hL6.trans hA))
  have HO6 := hid (hO6.later hA)
  have HP6 := hid (hP6.later hA)
  have HB1 := hid (HB1.out.later (hL6.trans hA))
  have HB2 := hid (HB2.out.later (hL6.trans hA))
  have HO1 := hid (HO1.out.later (hL6.trans hA))
  have HP1 := hid (HP1.out.later (hL6.trans hA))
  have HO5 := hid (HO5.out.later (hL6.trans hA))
  have HP5 := hid (HP5.out.later (hL6.trans hA))
  clear hO6 hP6 hL6 ha6 hb6 hA
  go_upto_region 14 with fail
  generalize w6.alloc (.cells #[.slice r1 3 l1, .slice r2 4 l2] 46) = W6 at HB1 HL6 HO1 HP1 HB2 HB6 HO6 HP6 HO5 HP5 ⊢
  obtain ⟨c0, c1, _, _⟩ := HB1.out
  obtain ⟨d0, d1, _, _⟩ := HB6.out
  go_wp2_with fail
  refine (eqDesk_same _ _ _ _ [1, 1, 1] [-1, 2, 2, 3] W6 HO6.out.ints HP6.out.ints HO1.out.ints HP1.out.ints).mono ?_
  rintro e w7 ⟨rfl, hL7⟩
  have HB2 := hid (HB2.out.later hL7)
  have HO5 := hid (HO5.out.later hL7)
  have HP5 := hid (HP5.out.later hL7)
  have HL7 := hid (HL6.out.trans hL7)
  clear hL7 c0 c1 d0 d1
  obtain ⟨d0, d1, _, _⟩ := HB2.out
  go_wp2_with fail
  refine (heldDesk_any _ _ 3 4 1 w7 (by omega) (by omega) (by omega) HO5.out.ints HP5.out.ints).mono ?_
  rintro e w8 ⟨rfl, hL8⟩
  rw [show (1 : Int) + ((3 : Nat) : Int) + ((4 : Nat) : Int) = 8 from rfl]
  have HL8 := hid (HL7.out.trans hL8)
  clear hL8
  go_wp2_with fail
  go_ret
  exact ⟨rfl, HL8.out⟩
end Go.Proofs.Ytofmmegpadojlab
