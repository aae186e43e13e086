/- QdA, QdB: in one text. -/
import Derived.Test.YtoaopmafokoaoaaQdTUV
import Derived.Laws.ResultCell
import Derived.Deep.DeepCutAuto
namespace Go.Proofs.Ytoaopmafokoaoaa
open Go.RowKit


/-- Four cells of block B that may be written. -/
structure QBox (w : World) (B : Nat) (a b c d : Int) : Prop where
  c0 : w.cell? ⟨B, 0, none⟩ = some (.int .i64 a)
  c1 : w.cell? ⟨B, 1, none⟩ = some (.int .i64 b)
  c2 : w.cell? ⟨B, 2, none⟩ = some (.int .i64 c)
  c3 : w.cell? ⟨B, 3, none⟩ = some (.int .i64 d)
  f0 : w.frozen? ⟨B, 0, none⟩ = false
  f1 : w.frozen? ⟨B, 1, none⟩ = false
  f2 : w.frozen? ⟨B, 2, none⟩ = false
  f3 : w.frozen? ⟨B, 3, none⟩ = false
theorem QBox.later {w w' : World} {B : Nat} {a b c d : Int} (h : QBox w B a b c d) (k : Later w w') : QBox w' B a b c d :=
  ⟨k.cell h.c0, k.cell h.c1, k.cell h.c2, k.cell h.c3, k.frozen h.c0 h.f0, k.frozen h.c1 h.f1, k.frozen h.c2 h.f2, k.frozen h.c3 h.f3⟩
theorem QBox.keep {w w' : World} {B : Nat} {a b c d : Int} (h : QBox w B a b c d) (k : w'.heap[B]? = w.heap[B]?) : QBox w' B a b c d :=
  ⟨cell_keep h.c0 k, cell_keep h.c1 k, cell_keep h.c2 k, cell_keep h.c3 k, (World.frozen?_of_block k).trans h.f0, (World.frozen?_of_block k).trans h.f1, (World.frozen?_of_block k).trans h.f2, (World.frozen?_of_block k).trans h.f3⟩
theorem QBox.lt {w : World} {B : Nat} {a b c d : Int} (h : QBox w B a b c d) : B < w.heap.size := World.block_lt_of_cell? w ⟨B, 0, none⟩ h.c0
theorem QBox.new (w : World) (a b c d : Int) : QBox (w.alloc (.cells #[.int .i64 a, .int .i64 b, .int .i64 c, .int .i64 d] 112)) w.heap.size a b c d :=
  ⟨by simp [go_sem], by simp [go_sem], by simp [go_sem], by simp [go_sem], by simp [go_sem], by simp [go_sem], by simp [go_sem], by simp [go_sem]⟩
theorem QBox.set {w : World} {B : Nat} {a b c d : Int} (h : QBox w B a b c d) (p q r s : Int) :
    QBox ((((w.setCell ⟨B, 0, none⟩ (.int .i64 p)).setCell ⟨B, 1, none⟩ (.int .i64 q)).setCell ⟨B, 2, none⟩ (.int .i64 r)).setCell ⟨B, 3, none⟩ (.int .i64 s)) B p q r s := by
  refine ⟨?_, ?_, ?_, ?_, ?_, ?_, ?_, ?_⟩
  · exact (World.cell?_setCell_other _ _ _ _ (by simp)).trans ((World.cell?_setCell_other _ _ _ _ (by simp)).trans ((World.cell?_setCell_other _ _ _ _ (by simp)).trans (World.cell?_setCell_same _ _ _ h.c0)))
  · exact (World.cell?_setCell_other _ _ _ _ (by simp)).trans ((World.cell?_setCell_other _ _ _ _ (by simp)).trans (World.cell?_setCell_same _ _ _ ((World.cell?_setCell_other _ _ _ _ (by simp)).trans h.c1)))
  · exact (World.cell?_setCell_other _ _ _ _ (by simp)).trans (World.cell?_setCell_same _ _ _ ((World.cell?_setCell_other _ _ _ _ (by simp)).trans ((World.cell?_setCell_other _ _ _ _ (by simp)).trans h.c2)))
  · exact World.cell?_setCell_same _ _ _ ((World.cell?_setCell_other _ _ _ _ (by simp)).trans ((World.cell?_setCell_other _ _ _ _ (by simp)).trans ((World.cell?_setCell_other _ _ _ _ (by simp)).trans h.c3)))
  · simp only [World.frozen?_setCell]; exact h.f0
  · simp only [World.frozen?_setCell]; exact h.f1
  · simp only [World.frozen?_setCell]; exact h.f2
  · simp only [World.frozen?_setCell]; exact h.f3
theorem setQ_far (w : World) (B b : Nat) (p q r s : Int) (h : b ≠ B) :
    ((((w.setCell ⟨B, 0, none⟩ (.int .i64 p)).setCell ⟨B, 1, none⟩ (.int .i64 q)).setCell ⟨B, 2, none⟩ (.int .i64 r)).setCell ⟨B, 3, none⟩ (.int .i64 s)).heap[b]? = w.heap[b]? := by
  rw [heap_setCell_other _ _ b _ h, heap_setCell_other _ _ b _ h, heap_setCell_other _ _ b _ h, heap_setCell_other _ _ b _ h]
theorem setQ_later {w0 w : World} {B : Nat} (h : Later w0 w) (hB : w0.heap.size ≤ B) (p q r s : Int) :
    Later w0 ((((w.setCell ⟨B, 0, none⟩ (.int .i64 p)).setCell ⟨B, 1, none⟩ (.int .i64 q)).setCell ⟨B, 2, none⟩ (.int .i64 r)).setCell ⟨B, 3, none⟩ (.int .i64 s)) :=
  Below.setCell (Below.setCell (Below.setCell (Below.setCell h hB _) hB _) hB _) hB _
theorem setQ_cell {w : World} {B b k : Nat} {v : Value} (p q r s : Int) (h : b ≠ B) (hc : w.cell? ⟨b, k, none⟩ = some v) :
    ((((w.setCell ⟨B, 0, none⟩ (.int .i64 p)).setCell ⟨B, 1, none⟩ (.int .i64 q)).setCell ⟨B, 2, none⟩ (.int .i64 r)).setCell ⟨B, 3, none⟩ (.int .i64 s)).cell? ⟨b, k, none⟩ = some v :=
  cell_keep hc (setQ_far w B b p q r s h)
theorem QBox.ints {w : World} {B : Nat} {a b c d : Int} (h : QBox w B a b c d) : Ints w (.slice (some ⟨B, 0, none⟩) 4 4) [a, b, c, d] := by
  refine ⟨_, 4, rfl, by simp, fun i hi => ⟨_, rfl, ?_⟩⟩
  rw [addr_add0]
  have h4 : i = 0 ∨ i = 1 ∨ i = 2 ∨ i = 3 := by simp at hi; omega
  rcases h4 with rfl | rfl | rfl | rfl
  · exact h.c0
  · exact h.c1
  · exact h.c2
  · exact h.c3
/-- one cell is written -/
theorem QBox.one {w : World} {B : Nat} {a b c d : Int} (h : QBox w B a b c d) (i : Nat) (hi : i < 4) (x : Int) :
    ∃ p q r s, [a, b, c, d].set i x = [p, q, r, s] ∧ QBox (w.setCell ⟨B, i, none⟩ (.int .i64 x)) B p q r s := by
  have h4 : i = 0 ∨ i = 1 ∨ i = 2 ∨ i = 3 := by omega
  rcases h4 with rfl | rfl | rfl | rfl
  · exact ⟨x, b, c, d, rfl, World.cell?_setCell_same _ _ _ h.c0, (World.cell?_setCell_other _ _ _ _ (by simp)).trans h.c1, (World.cell?_setCell_other _ _ _ _ (by simp)).trans h.c2, (World.cell?_setCell_other _ _ _ _ (by simp)).trans h.c3, by rw [World.frozen?_setCell]; exact h.f0, by rw [World.frozen?_setCell]; exact h.f1, by rw [World.frozen?_setCell]; exact h.f2, by rw [World.frozen?_setCell]; exact h.f3⟩
  · exact ⟨a, x, c, d, rfl, (World.cell?_setCell_other _ _ _ _ (by simp)).trans h.c0, World.cell?_setCell_same _ _ _ h.c1, (World.cell?_setCell_other _ _ _ _ (by simp)).trans h.c2, (World.cell?_setCell_other _ _ _ _ (by simp)).trans h.c3, by rw [World.frozen?_setCell]; exact h.f0, by rw [World.frozen?_setCell]; exact h.f1, by rw [World.frozen?_setCell]; exact h.f2, by rw [World.frozen?_setCell]; exact h.f3⟩
  · exact ⟨a, b, x, d, rfl, (World.cell?_setCell_other _ _ _ _ (by simp)).trans h.c0, (World.cell?_setCell_other _ _ _ _ (by simp)).trans h.c1, World.cell?_setCell_same _ _ _ h.c2, (World.cell?_setCell_other _ _ _ _ (by simp)).trans h.c3, by rw [World.frozen?_setCell]; exact h.f0, by rw [World.frozen?_setCell]; exact h.f1, by rw [World.frozen?_setCell]; exact h.f2, by rw [World.frozen?_setCell]; exact h.f3⟩
  · exact ⟨a, b, c, x, rfl, (World.cell?_setCell_other _ _ _ _ (by simp)).trans h.c0, (World.cell?_setCell_other _ _ _ _ (by simp)).trans h.c1, (World.cell?_setCell_other _ _ _ _ (by simp)).trans h.c2, World.cell?_setCell_same _ _ _ h.c3, by rw [World.frozen?_setCell]; exact h.f0, by rw [World.frozen?_setCell]; exact h.f1, by rw [World.frozen?_setCell]; exact h.f2, by rw [World.frozen?_setCell]; exact h.f3⟩
theorem QBox.at {w : World} {B : Nat} {a b c d : Int} (h : QBox w B a b c d) (i : Nat) (hi : i < 4) : w.cell? ⟨B, i, none⟩ = some (.int .i64 ([a, b, c, d].getD i 0)) ∧ w.frozen? ⟨B, i, none⟩ = false := by
  have h4 : i = 0 ∨ i = 1 ∨ i = 2 ∨ i = 3 := by omega
  rcases h4 with rfl | rfl | rfl | rfl
  · exact ⟨h.c0, h.f0⟩
  · exact ⟨h.c1, h.f1⟩
  · exact ⟨h.c2, h.f2⟩
  · exact ⟨h.c3, h.f3⟩
/-- one result, a variable of its own -/
theorem results_cellQ {fn : Func} {p : Tmp} {ty : TypeId} (h : fn.results = #[.cell p ty]) (tmps : Array Value) (P : Program) (w : World) :
    (results fn tmps).run P w = ((asAddr (tmps.getD p undef)).run P w).andThen fun a w₁ => (loadVar ty a).run P w₁ := by
  simp only [results, h]
  simp [Sem.run_bind, Result.andThen]

set_option maxRecDepth 20000 in
theorem sumS_any (a b c d : Int) (w : World) (hm : Md a b c d) :
    Calls Try.prog 127 #[.agg #[.int .i64 a, .int .i64 b, .int .i64 c, .int .i64 d]] w fun e w' => e = .returned (.int .i64 (a + b + c + d)) ∧ Later w w' := by
  obtain ⟨a1, a2, b1, b2, c1, c2, d1, d2⟩ := hm
  have HL := hid (Later.alloc w (.cells #[.int .i64 a, .int .i64 b, .int .i64 c, .int .i64 d] 112))
  obtain ⟨k0, k1, k2, k3, _, _, _, _⟩ := QBox.new w a b c d
  go_enter Try.func127, Try.ntmps127
  go_wp2_with fail
  generalize w.alloc (.cells #[.int .i64 a, .int .i64 b, .int .i64 c, .int .i64 d] 112) = w1 at k0 k1 k2 k3 HL ⊢
  go_wp2_with fail
  go_ret
  exact ⟨rfl, HL.out⟩
theorem sumS_as (a b c d s : Int) (w : World) (hm : Md a b c d) (hs : a + b + c + d = s) :
    Calls Try.prog 127 #[.agg #[.int .i64 a, .int .i64 b, .int .i64 c, .int .i64 d]] w fun e w' => e = .returned (.int .i64 s) ∧ Later w w' := by
  subst hs; exact sumS_any a b c d w hm

/-- the greatest of the first k numbers -/
def maxTo (zs : List Int) (k : Nat) : Int := zs.getD (gTo zs k) 0
theorem gIx_first (zs : List Int) : ∀ j, j < gIx zs → zs.getD j 0 ≠ zs.getD (gIx zs) 0 := fun j hj => by have := gTo_least zs zs.length j hj; unfold gIx; omega
def QuadRes (w : World) (zs : List Int) (e : Ending) (w' : World) : Prop := ∃ p q r s, zs = [p, q, r, s] ∧ e = .returned (.agg #[.int .i64 p, .int .i64 q, .int .i64 r, .int .i64 s]) ∧ Later w w'
set_option maxRecDepth 20000 in
set_option maxHeartbeats 2000000 in
theorem swapped_any (a b c d : Int) (i : Nat) (w : World) (hi : i < 4) (hm : Md a b c d) :
    Calls Try.prog 94 #[.agg #[.int .i64 a, .int .i64 b, .int .i64 c, .int .i64 d], .int .i64 i] w fun e w' => QuadRes w (swL [a, b, c, d] i) e w' := by
  have hA := Later.alloc w (.cells #[.int .i64 a, .int .i64 b, .int .i64 c, .int .i64 d] 112)
  have hA2 := Later.alloc (w.alloc (.cells #[.int .i64 a, .int .i64 b, .int .i64 c, .int .i64 d] 112)) (.cells #[.int .i64 0, .int .i64 0, .int .i64 0, .int .i64 0] 112)
  have HB := hid ((QBox.new w a b c d).later hA2)
  have hR := QBox.new (w.alloc (.cells #[.int .i64 a, .int .i64 b, .int .i64 c, .int .i64 d] 112)) 0 0 0 0
  rw [show (w.alloc (.cells #[.int .i64 a, .int .i64 b, .int .i64 c, .int .i64 d] 112)).heap.size = w.heap.size + 1 by simp] at hR
  have HR := hid hR
  have HL := hid (hA.trans hA2)
  have hmi := hm.getD i hi
  obtain ⟨x, hx⟩ : ∃ x, [a, b, c, d].getD i 0 = x := ⟨_, rfl⟩
  have HX := hid hx
  rw [hx] at hmi
  have HSW := hid (show swN [a, b, c, d] i = 2 * (a + b + c + d - x) - x by unfold swN; rw [sum4, hx])
  obtain ⟨x1, x2⟩ := hmi
  obtain ⟨s, hs⟩ : ∃ s, a + b + c + d = s := ⟨_, rfl⟩
  have hsb : -40000000 ≤ s ∧ s ≤ 40000000 := by have := hm.a1; have := hm.a2; have := hm.b1; have := hm.b2; have := hm.c1; have := hm.c2; have := hm.d1; have := hm.d2; omega
  obtain ⟨s1, s2⟩ := hsb
  have HSM := hid (fun (w0 : World) => sumS_as a b c d s w0 hm hs)
  rw [hs] at HSW
  have ww1 : IntKind.i64.wrap (s - x) = s - x := by rw [IntWalk.i64_left]; exact IntWalk.wrap64_in _ (by omega)
  have ww2 : IntKind.i64.wrap (2 * (s - x)) = 2 * (s - x) := by rw [IntWalk.i64_left]; exact IntWalk.wrap64_in _ (by omega)
  have ww3 : IntKind.i64.wrap (2 * (s - x) - x) = 2 * (s - x) - x := by rw [IntWalk.i64_left]; exact IntWalk.wrap64_in _ (by omega)
  have hiI : (i : Int) < 4 := by omega
  have i0 : (0 : Int) ≤ (i : Int) := by omega
  have HI := hid hi
  clear hA hA2 hR hm hx hs hi
  go_enter Try.func94, Try.ntmps94
  go_upto_region 1 with fail
  generalize (w.alloc (.cells #[.int .i64 a, .int .i64 b, .int .i64 c, .int .i64 d] 112)).alloc (.cells #[.int .i64 0, .int .i64 0, .int .i64 0, .int .i64 0] 112) = w1 at HB HR HL ⊢
  obtain ⟨B, hB⟩ : ∃ B, w.heap.size = B := ⟨_, rfl⟩
  have HBW := hid (show w.heap.size ≤ B by omega)
  rw [hB] at HB HR ⊢
  clear hB
  obtain ⟨c0, c1, c2, c3, f0, f1, f2, f3⟩ := HB.out
  have ci := (HB.out.at i HI.out).1
  have fi := (HB.out.at i HI.out).2
  rw [HX.out] at ci
  go_region_with (first | (go_at_call 127; refine (HSM.out _).mono ?_; rintro e w3 ⟨rfl, hL3⟩; have hL3' := (Later.drew w1).trans hL3; have di := hL3'.cell ci; have gi := hL3'.frozen ci fi; have HB3 := hid (HB.out.later hL3'); have HR3 := hid (HR.out.later hL3'); have HL3 := hid (HL.out.trans hL3'); clear hL3 hL3'))
  all_goals
    obtain ⟨p, q, r, t, he, hb4⟩ := HB3.out.one i HI.out (2 * (s - x) - x)
    have HB4 := hid hb4
    have HR4 := hid (HR3.out.keep (heap_setCell_other w3 ⟨B, i, none⟩ (B + 1) (.int .i64 (2 * (s - x) - x)) (by simp)))
    have HL4 := hid (show Later w (w3.setCell ⟨B, i, none⟩ (.int .i64 (2 * (s - x) - x))) from HL3.out.setCell HBW.out _)
    have HE := hid he
    generalize w3.setCell ⟨B, i, none⟩ (.int .i64 (2 * (s - x) - x)) = w4 at HB4 HR4 HL4 ⊢
    clear c0 c1 c2 c3 f0 f1 f2 f3 ci fi di gi he hb4
    obtain ⟨c0, c1, c2, c3, _, _, _, _⟩ := HB4.out
    obtain ⟨d0, d1, d2, d3, f0, f1, f2, f3⟩ := HR4.out
    go_wp2_with fail
    have HR5 := hid (HR4.out.set p q r t)
    have HL5 := hid (setQ_later HL4.out (show w.heap.size ≤ B + 1 by have := HBW.out; omega) p q r t)
    clear c0 c1 c2 c3 d0 d1 d2 d3 f0 f1 f2 f3
    generalize ((((w4.setCell ⟨B + 1, 0, none⟩ (.int .i64 p)).setCell ⟨B + 1, 1, none⟩ (.int .i64 q)).setCell ⟨B + 1, 2, none⟩ (.int .i64 r)).setCell ⟨B + 1, 3, none⟩ (.int .i64 t)) = w5 at HR5 HL5 ⊢
    obtain ⟨d0, d1, d2, d3, _, _, _, _⟩ := HR5.out
    refine bodyPost_ret (v := .agg #[.int .i64 p, .int .i64 q, .int .i64 r, .int .i64 t]) ?_ rfl ⟨p, q, r, t, by unfold swL; rw [HSW.out]; exact HE.out, rfl, HL5.out⟩
    rw [results_cellQ rfl]
    go_simp
end Go.Proofs.Ytoaopmafokoaoaa
