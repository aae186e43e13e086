/- What the model draws for the laws on Markov triples. -/
import Derived.Test.YtdahhcigphhfdabCuMk
namespace Go.Proofs.Ytdahhcigphhfdab
open Go.RowKit

set_option maxRecDepth 20000 in
set_option maxHeartbeats 4000000 in
theorem drawIsMarkov_any (v : Value) (bs : List Int) (w : World) (h : BytesR w v bs) :
    Calls Try.prog 111 #[v] w fun e w' => OneListG w e w' := by
  have HC := hid (fun ty => Cur.newG w v bs h ty)
  obtain ⟨a, cap, rfl, _⟩ := id h
  clear h
  go_enter Try.func111, Try.ntmps111
  go_wp2_with fail
  refine (curMarkov_any w _ w.heap.size _ bs 0 (by omega) (HC.out _)).mono ?_
  rintro e w1 ⟨u, zs, rfl, ho, hl, hC⟩
  have HO := hid (show OwnInts w.heap.size w1.heap.size w1 u zs from ho.wide (by omega) (Nat.le_refl _))
  have HL := hid hC.later
  clear ho hC
  go_wp2_with fail
  go_ret
  exact ⟨u, zs, rfl, HO.out, hl, HL.out⟩
theorem drawMarkovUp_any (v : Value) (bs : List Int) (w : World) (h : BytesR w v bs) :
    Calls Try.prog 46 #[v] w fun e w' => OneListG w e w' := by
  have HC := hid (drawIsMarkov_any v bs w h)
  clear h
  go_enter Try.func46, Try.ntmps46
  go_wp2_with fail
  refine HC.out.mono ?_
  rintro e w1 ⟨u, zs, rfl, ho, hl, hL⟩
  have HO := hid ho
  have HL := hid hL
  clear ho hL
  go_wp2_with fail
  go_ret
  exact ⟨u, zs, rfl, HO.out, hl, HL.out⟩
set_option maxRecDepth 20000 in
set_option maxHeartbeats 4000000 in
theorem drawMarkovMove_any (v : Value) (bs : List Int) (w : World) (h : BytesR w v bs) :
    Calls Try.prog 42 #[v] w fun e w' => ListNumM w e w' := by
  have HC := hid (fun ty => Cur.newG w v bs h ty)
  obtain ⟨a, cap, rfl, _⟩ := id h
  clear h
  go_enter Try.func42, Try.ntmps42
  go_wp2_with fail
  refine (curMarkov_any w _ w.heap.size _ bs 0 (by omega) (HC.out _)).mono ?_
  rintro e w1 ⟨u, zs, rfl, ho, hl, hC⟩
  have HO := hid ho
  have HC1 := hid hC
  clear ho hC
  go_wp2_with fail
  refine (curLitG_any w w1 w.heap.size _ bs _ [0, 1, 2, 3, -1] (by omega) (by simp) (by simp) HC1.out).mono ?_
  rintro e w2 ⟨k, rfl, _, hC, hG⟩
  have HO2 := hid ((HO.out.keepG (Nat.lt_succ_self _) hG).wide (show w.heap.size ≤ w.heap.size + 1 by omega) (Nat.le_refl _))
  have HL2 := hid hC.later
  clear hC hG
  go_wp2_with fail
  go_ret2
  exact ⟨u, zs, k, rfl, HO2.out, hl, HL2.out⟩
set_option maxRecDepth 20000 in
set_option maxHeartbeats 4000000 in
theorem drawSolvesMarkov_any (v : Value) (bs : List Int) (w : World) (h : BytesR w v bs) :
    Calls Try.prog 52 #[v] w fun e w' => OneListG w e w' := by
  have HC := hid (fun ty => Cur.newG w v bs h ty)
  obtain ⟨a, cap, rfl, _⟩ := id h
  clear h
  go_enter Try.func52, Try.ntmps52
  go_wp2_with fail
  refine (curMarkov_any w _ w.heap.size _ bs 0 (by omega) (HC.out _)).mono ?_
  rintro e w1 ⟨u, zs, rfl, ho, hl, hC⟩
  obtain ⟨p1, c1, rfl, hcap⟩ := ho.shape
  have HO := hid ho
  have HC1 := hid hC
  have HB1 := hid hC.ltG
  clear ho hC hcap
  by_cases h3 : zs.length = 3
  · obtain ⟨x, y, z, rfl⟩ : ∃ a b c, zs = [a, b, c] := by
      match zs, h3 with
      | [a, b, c], _ => exact ⟨a, b, c, rfl⟩
    clear h3 hl
    obtain ⟨ga0, gc, e0, _, _, _, hsh⟩ := ownsRow_shape HO.out.1
    obtain ⟨g, rfl, _⟩ := hsh 0 (by simp)
    simp only [Value.slice.injEq] at e0
    obtain ⟨rfl, _, rfl⟩ := e0
    clear hsh
    simp only [List.length_cons, List.length_nil, Nat.zero_add, Nat.reduceAdd] at HO ⊢
    go_wp2_with fail
    refine (curOneG_any w w1 w.heap.size _ bs _ 2 (by omega) (by omega) HC1.out).mono ?_
    rintro e w2 ⟨b, rfl, hC, hG⟩
    have HO2 := hid (HO.out.keepG (Nat.lt_succ_self _) hG)
    have HL2 := hid hC.later
    have HB2 := hid hC.ltG
    clear hC hG HO HC1
    cases b
    · go_wp2_with fail
      go_ret
      exact ⟨_, [x, y, z], rfl, HO2.out.wide (by omega) (Nat.le_refl _), by simp, HL2.out⟩
    · have kc0 : w2.cell? ⟨g, 0, none⟩ = some (.int .i64 x) := by have := HO2.out.1.cellAt 0 (by simp); simpa using this
      have kc1 : w2.cell? ⟨g, 1, none⟩ = some (.int .i64 y) := by have := HO2.out.1.cellAt 1 (by simp); simpa using this
      have kc2 : w2.cell? ⟨g, 2, none⟩ = some (.int .i64 z) := by have := HO2.out.1.cellAt 2 (by simp); simpa using this
      have KA := hid (fun (o : Obj) => (Later.alloc w2 o).trans (Later.drew _))
      go_wp2_with fail
      go_region_held3 (fun w' => w'.cell? ⟨g, 0, none⟩ = some (.int .i64 x) ∧ w'.cell? ⟨g, 1, none⟩ = some (.int .i64 y) ∧ w'.cell? ⟨g, 2, none⟩ = some (.int .i64 z)) (first | exact ⟨kc0, kc1, kc2⟩ | exact ⟨(KA.out _).cell kc0, (KA.out _).cell kc1, (KA.out _).cell kc2⟩) (fail)
      go_wp2_with fail
      go_ret
      refine ⟨_, [y, z, x], rfl, ?_, by simp, ?_⟩
      · first | exact (ownInts_litG w2 w.heap.size (by have := HB2.out; omega) [y, z, x] (by simp)).later (Later.drew _) | exact ownInts_litG w2.drew w.heap.size (by have := HB2.out; exact Nat.le_of_lt this) [y, z, x] (by simp)
      · first | exact HL2.out.trans (KA.out _) | exact HL2.out.trans ((Later.drew _).trans (Later.alloc _ _))
  · have h3b : ((zs.length : Int) == 3) = false := by simp; omega
    clear h3
    go_wp2_with fail
    go_ret
    exact ⟨_, zs, rfl, HO.out.wide (by omega) (Nat.le_refl _), hl, HC1.out.later⟩
end Go.Proofs.Ytdahhcigphhfdab
