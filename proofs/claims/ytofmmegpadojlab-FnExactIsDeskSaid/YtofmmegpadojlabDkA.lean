/- Desks in memory: two slices of numbers; what the laws' helpers do with them. -/
import Derived.Test.YtofmmegpadojlabBasB
import Derived.Deep.RegionHeld3
namespace Go.Proofs.Ytofmmegpadojlab
open Go.RowKit

def SzDk (n m : Nat) (l : Int) (w : World) (e : Ending) (w' : World) : Prop :=
  (∃ r : Int, e = .returned (.int .i64 r) ∧ (r = -1 ∨ (0 ≤ r ∧ (n : Int) ≤ l ∧ (m : Int) ≤ l))) ∧ Later w w'
set_option maxRecDepth 20000 in
set_option maxHeartbeats 1000000 in
theorem szDesk_any (u v : Value) (zs qs : List Int) (l : Int) (w : World) (hl : 0 ≤ l ∧ l ≤ 1048576) (h1 : Ints w u zs) (h2 : Ints w v qs) :
    Calls Try.prog 25 #[.agg #[u, v], .int .i64 l] w fun e w' => SzDk zs.length qs.length l w e w' := by
  have HL := hid (Later.alloc w (.cells #[u, v] 43))
  have H1 := hid (h1.later HL.out)
  have H2 := hid (h2.later HL.out)
  have HS := hid (szIntS_any u zs l _ hl H1.out)
  clear h1 h2
  go_enter Try.func25, Try.ntmps25
  go_wp2_with fail
  refine HS.out.mono ?_
  rintro e w1 ⟨⟨r, rfl, hr⟩, rfl⟩
  rcases hr with rfl | ⟨r0, r1, r2⟩
  · go_wp2_with fail
    go_ret
    exact ⟨⟨-1, rfl, .inl rfl⟩, HL.out⟩
  · have hn : ¬ r < 0 := by omega
    have HS2 := hid (szIntS_any v qs r _ ⟨r0, by omega⟩ H2.out)
    go_wp2_with fail
    refine HS2.out.mono ?_
    rintro e w2 ⟨⟨q, rfl, hq⟩, rfl⟩
    rcases hq with rfl | ⟨q0, q1, q2⟩
    · go_wp2_with fail
      go_ret
      exact ⟨⟨-1, rfl, .inl rfl⟩, HL.out⟩
    · have hn2 : ¬ q < 0 := by omega
      go_wp2_with fail
      go_ret
      exact ⟨⟨q, rfl, .inr ⟨q0, r2, by omega⟩⟩, HL.out⟩
/-- a block of two cells -/
structure Box2 (w : World) (B : Nat) (x y : Value) : Prop where
  c0 : w.cell? ⟨B, 0, none⟩ = some x
  c1 : w.cell? ⟨B, 1, none⟩ = some y
  f0 : w.frozen? ⟨B, 0, none⟩ = false
  f1 : w.frozen? ⟨B, 1, none⟩ = false
theorem Box2.new (w : World) (x y : Value) (t : TypeId) : Box2 (w.alloc (.cells #[x, y] t)) w.heap.size x y := ⟨by simp [go_sem], by simp [go_sem], by simp [go_sem], by simp [go_sem]⟩
theorem Box2.later {w w' : World} {B : Nat} {x y : Value} (h : Box2 w B x y) (k : Later w w') : Box2 w' B x y := ⟨k.cell h.c0, k.cell h.c1, k.frozen h.c0 h.f0, k.frozen h.c1 h.f1⟩
theorem Box2.set0 {w : World} {B : Nat} {x y : Value} (h : Box2 w B x y) (z : Value) : Box2 (w.setCell ⟨B, 0, none⟩ z) B z y :=
  ⟨World.cell?_setCell_same _ _ _ h.c0, (World.cell?_setCell_other _ _ _ _ (by simp)).trans h.c1, by simp only [World.frozen?_setCell]; exact h.f0, by simp only [World.frozen?_setCell]; exact h.f1⟩
theorem Box2.set1 {w : World} {B : Nat} {x y : Value} (h : Box2 w B x y) (z : Value) : Box2 (w.setCell ⟨B, 1, none⟩ z) B x z :=
  ⟨(World.cell?_setCell_other _ _ _ _ (by simp)).trans h.c0, World.cell?_setCell_same _ _ _ h.c1, by simp only [World.frozen?_setCell]; exact h.f0, by simp only [World.frozen?_setCell]; exact h.f1⟩
theorem Box2.other {w : World} {B : Nat} {x y : Value} (h : Box2 w B x y) {a : Addr} (ha : a.block ≠ B) (z : Value) : Box2 (w.setCell a z) B x y :=
  ⟨cell_keep h.c0 (heap_setCell_other _ _ _ _ (by simpa using ha.symm)), cell_keep h.c1 (heap_setCell_other _ _ _ _ (by simpa using ha.symm)), by simp only [World.frozen?_setCell]; exact h.f0, by simp only [World.frozen?_setCell]; exact h.f1⟩
theorem results_cellD {fn : Func} {p : Tmp} {ty : TypeId} (h : fn.results = #[.cell p ty]) (tmps : Array Value) (P : Program) (w : World) :
    (results fn tmps).run P w = ((asAddr (tmps.getD p undef)).run P w).andThen fun a w₁ => (loadVar ty a).run P w₁ := by
  simp only [results, h]
  simp [Sem.run_bind, Result.andThen]
theorem Box2.load {w : World} {B : Nat} {x y : Value} (h : Box2 w B x y) : Sem.run Try.prog (loadVar 46 ⟨B, 0, none⟩) w = .ok (.agg #[x, y]) w := by
  have := run_loadCells_list (P := Try.prog) w ⟨B, 0, none⟩ [x, y] (fun j v hj => by
    match j, hj with
    | 0, hj => simp at hj; subst hj; simpa [Addr.add] using h.c0
    | 1, hj => simp at hj; subst hj; simpa [Addr.add] using h.c1)
  unfold loadVar
  simp at this
  simp [Sem.run_bind, Try.isAgg46, Try.sizeOf46, this]
/-- a desk that was copied -/
def DkRes (w : World) (zs qs : List Int) (e : Ending) (w' : World) : Prop := ∃ u v, e = .returned (.agg #[u, v]) ∧ Ints w' u zs ∧ Ints w' v qs ∧ Later w w'
set_option maxRecDepth 20000 in
set_option maxHeartbeats 1000000 in
theorem toDesk_any (u v : Value) (zs qs : List Int) (w : World) (hz : zs.length ≤ 1048576) (hq : qs.length ≤ 1048576) (h1 : Ints w u zs) (h2 : Ints w v qs) :
    Calls Try.prog 27 #[.agg #[u, v]] w fun e w' => DkRes w zs qs e w' := by
  have HZ := hid hz
  have HQ := hid hq
  have H1 := hid h1
  have H2 := hid h2
  clear h1 h2 hz hq
  have HB1 := hid (Box2.new w u v 43)
  have HB2 := hid (Box2.new (w.alloc (.cells #[u, v] 43)) (.slice none 0 0) (.slice none 0 0) 46)
  have HB3 := hid (Box2.new ((w.alloc (.cells #[u, v] 43)).alloc (.cells #[.slice none 0 0, .slice none 0 0] 46)) (.slice none 0 0) (.slice none 0 0) 46)
  go_enter Try.func27, Try.ntmps27
  go_wp2_with fail
  have HB1 := hid ((HB1.out.later (Later.alloc _ (.cells #[.slice none 0 0, .slice none 0 0] 46))).later (Later.alloc _ (.cells #[.slice none 0 0, .slice none 0 0] 46)))
  have HB2 := hid (HB2.out.later (Later.alloc _ (.cells #[.slice none 0 0, .slice none 0 0] 46)))
  have HL := hid (((Later.alloc w (.cells #[u, v] 43)).trans (Later.alloc _ (.cells #[.slice none 0 0, .slice none 0 0] 46))).trans (Later.alloc _ (.cells #[.slice none 0 0, .slice none 0 0] 46)))
  simp only [World.size_alloc] at HB2 HB3
  generalize ((w.alloc (.cells #[u, v] 43)).alloc (.cells #[.slice none 0 0, .slice none 0 0] 46)).alloc (.cells #[.slice none 0 0, .slice none 0 0] 46) = W at HB1 HB2 HB3 HL ⊢
  obtain ⟨S, hS⟩ : ∃ S, w.heap.size = S := ⟨_, rfl⟩
  have HS := hid hS
  rw [hS] at HB1 HB2 HB3 ⊢
  clear hS
  refine (toIntS_any u zs W HZ.out (H1.out.later HL.out)).mono ?_
  rintro e w1 ⟨v1, rfl, hO1, hL1⟩
  obtain ⟨p1, k1, rfl, _⟩ := hO1.shape
  have HI1 := hid hO1.ints
  have HL1 := hid (HL.out.trans hL1)
  have HB1 := hid (HB1.out.later hL1)
  have HB2 := hid (HB2.out.later hL1)
  have hB3 := HB3.out.later hL1
  have HO1 := hid (hO1.wide (show W.heap.size ≤ W.heap.size from Nat.le_refl _) (Nat.le_refl _))
  have HSZ := hid (show S + 1 + 1 < W.heap.size from World.block_lt_of_cell? W ⟨S + 1 + 1, 0, none⟩ HB3.out.c0)
  clear hO1 hL1
  obtain ⟨d0, d1, g0, g1⟩ := hB3
  obtain ⟨c0, c1, _, _⟩ := HB1.out
  have HX := hid (show Later w (w1.setCell ⟨S + 1 + 1, 0, none⟩ (.slice p1 zs.length k1)) from HL1.out.setCell (by have := HS.out; simp only; omega) (.slice p1 zs.length k1))
  have HBX := hid ((⟨d0, d1, g0, g1⟩ : Box2 w1 (S + 1 + 1) _ _).set0 (.slice p1 zs.length k1))
  have HBY := hid (HB1.out.other (a := ⟨S + 1 + 1, 0, none⟩) (by simp only; omega) (.slice p1 zs.length k1))
  have HBZ := hid (HB2.out.other (a := ⟨S + 1 + 1, 0, none⟩) (by simp only; omega) (.slice p1 zs.length k1))
  have HOW1 := hid (show OwnInts W.heap.size w1.heap.size (w1.setCell ⟨S + 1 + 1, 0, none⟩ (.slice p1 zs.length k1)) (.slice p1 zs.length k1) zs from HO1.out.keep fun b h1 _ => heap_setCell_other w1 ⟨S + 1 + 1, 0, none⟩ b (.slice p1 zs.length k1) (by have := HSZ.out; simp only; omega))
  have HI1 := hid (show Ints (w1.setCell ⟨S + 1 + 1, 0, none⟩ (.slice p1 zs.length k1)) (.slice p1 zs.length k1) zs from (HO1.out.keep fun b h1 _ => heap_setCell_other w1 ⟨S + 1 + 1, 0, none⟩ b (.slice p1 zs.length k1) (by have := HSZ.out; simp only; omega)).ints)
  go_wp2_with fail
  clear c0 c1 d0 d1 g0 g1
  generalize w1.setCell ⟨S + 1 + 1, 0, none⟩ (.slice p1 zs.length k1) = w2 at HX HBX HBY HBZ HI1 HOW1 ⊢
  refine (toIntS_any v qs w2 HQ.out (H2.out.later HX.out)).mono ?_
  rintro e w3 ⟨v2, rfl, hO2, hL2⟩
  obtain ⟨p2, k2, rfl, _⟩ := hO2.shape
  have HO2 := hid (hO2.wide (show w2.heap.size ≤ w2.heap.size from Nat.le_refl _) (Nat.le_refl _))
  have HOW := hid (HOW1.out.later hL2)
  have HX3 := hid (HX.out.trans hL2)
  have HBX3 := hid (HBX.out.later hL2)
  have HBZ3 := hid (HBZ.out.later hL2)
  have HSZ2 := hid (show S + 1 + 1 < w2.heap.size from World.block_lt_of_cell? w2 ⟨S + 1 + 1, 0, none⟩ HBX.out.c0)
  have HBY3 := hid (HBY.out.later hL2)
  clear hO2 hL2
  obtain ⟨d0, d1, g0, g1⟩ := HBX3.out
  obtain ⟨r0, r1, q0, q1⟩ := HBZ3.out
  have HF := hid ((HBX3.out).set1 (.slice p2 qs.length k2))
  have HG := hid ((HBZ3.out.other (a := ⟨S + 1 + 1, 1, none⟩) (by simp only; omega) (.slice p2 qs.length k2)))
  have HXF := hid (show Later w (w3.setCell ⟨S + 1 + 1, 1, none⟩ (.slice p2 qs.length k2)) from HX3.out.setCell (by have := HS.out; simp only; omega) _)
  go_wp2_with fail
  clear d0 d1 g0 g1 r0 r1 q0 q1
  have HE := hid ((HG.out.set0 (.slice p1 zs.length k1)).set1 (.slice p2 qs.length k2))
  have HXE := hid (show Later w (((w3.setCell ⟨S + 1 + 1, 1, none⟩ (.slice p2 qs.length k2)).setCell ⟨S + 1, 0, none⟩ (.slice p1 zs.length k1)).setCell ⟨S + 1, 1, none⟩ (.slice p2 qs.length k2)) from (HXF.out.setCell (by have := HS.out; simp only; omega) _).setCell (by have := HS.out; simp only; omega) _)
  have HSW := HSZ.out
  have HSW2 := HSZ2.out
  have HJ1 := HO1.out
  have HIF : Ints (((w3.setCell ⟨S + 1 + 1, 1, none⟩ (.slice p2 qs.length k2)).setCell ⟨S + 1, 0, none⟩ (.slice p1 zs.length k1)).setCell ⟨S + 1, 1, none⟩ (.slice p2 qs.length k2)) (.slice p2 qs.length k2) qs :=
    (HO2.out.keep fun b h1 _ => ((heap_setCell_other _ _ b _ (by simp only; omega)).trans ((heap_setCell_other _ _ b _ (by simp only; omega)).trans (heap_setCell_other _ _ b _ (by simp only; omega))))).ints
  have HOA := HOW.out
  have HIA : Ints (((w3.setCell ⟨S + 1 + 1, 1, none⟩ (.slice p2 qs.length k2)).setCell ⟨S + 1, 0, none⟩ (.slice p1 zs.length k1)).setCell ⟨S + 1, 1, none⟩ (.slice p2 qs.length k2)) (.slice p1 zs.length k1) zs :=
    (HOA.keep fun b h1 _ => ((heap_setCell_other _ _ b _ (by simp only; omega)).trans ((heap_setCell_other _ _ b _ (by simp only; omega)).trans (heap_setCell_other _ _ b _ (by simp only; omega))))).ints
  refine bodyPost_ret (v := .agg #[.slice p1 zs.length k1, .slice p2 qs.length k2]) ?_ rfl ⟨_, _, rfl, HIA, HIF, HXE.out⟩
  rw [results_cellD rfl]
  simp [asAddr, HE.out.load]
set_option maxRecDepth 20000 in
set_option maxHeartbeats 1000000 in
theorem eqDesk_same (u v u2 v2 : Value) (zs qs : List Int) (w : World) (h1 : Ints w u zs) (h2 : Ints w v qs) (h3 : Ints w u2 zs) (h4 : Ints w v2 qs) :
    Calls Try.prog 29 #[.agg #[u, v], .agg #[u2, v2]] w fun e w' => e = .returned (.bool true) ∧ Later w w' := by
  have HL := hid ((Later.alloc w (.cells #[u, v] 46)).trans (Later.alloc _ (.cells #[u2, v2] 46)))
  have HS := hid (eqIntS_any u u2 zs zs _ (h1.later HL.out) (h3.later HL.out))
  have HS2 := hid (fun w' (h : Later w w') => eqIntS_any v v2 qs qs w' (h2.later h) (h4.later h))
  clear h1 h2 h3 h4
  go_enter Try.func29, Try.ntmps29
  go_wp2_with fail
  refine HS.out.mono ?_
  rintro e w1 ⟨rfl, hD⟩
  rw [eqL_self]
  obtain ⟨n, rfl⟩ := hD
  have HL1 := hid (HL.out.trans (Later.drewN _ n))
  go_wp2_with fail
  refine (HS2.out _ HL1.out).mono ?_
  rintro e w2 ⟨rfl, hD⟩
  rw [eqL_self]
  obtain ⟨n2, hD⟩ := hD
  have HL2 := hid (HL1.out.trans (show Later _ w2 by rw [hD]; exact Later.drewN _ n2))
  clear hD
  go_wp2_with fail
  go_ret
  exact ⟨rfl, HL2.out⟩
end Go.Proofs.Ytofmmegpadojlab
