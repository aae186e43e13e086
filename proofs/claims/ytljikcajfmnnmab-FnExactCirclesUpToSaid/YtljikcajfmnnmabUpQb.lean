/- QdA, QdB, QdC, QdD: in one text. -/
import Derived.Test.YtljikcajfmnnmabUpQa
import Derived.Laws.ResultCell
import Derived.Deep.DeepCutAuto
import Derived.Laws.StructEq
import Derived.ChangeKeysEq
import Derived.Test.YtljikcajfmnnmabApply
namespace Go.Proofs.Ytljikcajfmnnmab
open Go.RowKit


/-- Four cells of block B that may be written. -/
structure QBox (w : World) (B : Nat) (a b c d : Int) : Prop where
  c0 : w.cell? ⟨B, 0, none⟩ = some (.int .i64 a)
  c1 : w.cell? ⟨B, 1, none⟩ = some (.int .i64 b)
  c2 : w.cell? ⟨B, 2, none⟩ = some (.int .i64 c)
  c3 : w.cell? ⟨B, 3, none⟩ = some (.int .i64 d)
  f0 : w.frozen? ⟨B, 0, none⟩ = false
  f1 : w.frozen? ⟨B, 1, none⟩ = false
  f2 : w.frozen? ⟨B, 2, none⟩ = false
  f3 : w.frozen? ⟨B, 3, none⟩ = false
theorem QBox.later {w w' : World} {B : Nat} {a b c d : Int} (h : QBox w B a b c d) (k : Later w w') : QBox w' B a b c d :=
  ⟨k.cell h.c0, k.cell h.c1, k.cell h.c2, k.cell h.c3, k.frozen h.c0 h.f0, k.frozen h.c1 h.f1, k.frozen h.c2 h.f2, k.frozen h.c3 h.f3⟩
theorem QBox.keep {w w' : World} {B : Nat} {a b c d : Int} (h : QBox w B a b c d) (k : w'.heap[B]? = w.heap[B]?) : QBox w' B a b c d :=
  ⟨cell_keep h.c0 k, cell_keep h.c1 k, cell_keep h.c2 k, cell_keep h.c3 k, (World.frozen?_of_block k).trans h.f0, (World.frozen?_of_block k).trans h.f1, (World.frozen?_of_block k).trans h.f2, (World.frozen?_of_block k).trans h.f3⟩
theorem QBox.lt {w : World} {B : Nat} {a b c d : Int} (h : QBox w B a b c d) : B < w.heap.size := World.block_lt_of_cell? w ⟨B, 0, none⟩ h.c0
theorem QBox.new (w : World) (a b c d : Int) : QBox (w.alloc (.cells #[.int .i64 a, .int .i64 b, .int .i64 c, .int .i64 d] 80)) w.heap.size a b c d :=
  ⟨by simp [go_sem], by simp [go_sem], by simp [go_sem], by simp [go_sem], by simp [go_sem], by simp [go_sem], by simp [go_sem], by simp [go_sem]⟩
theorem QBox.set {w : World} {B : Nat} {a b c d : Int} (h : QBox w B a b c d) (p q r s : Int) :
    QBox ((((w.setCell ⟨B, 0, none⟩ (.int .i64 p)).setCell ⟨B, 1, none⟩ (.int .i64 q)).setCell ⟨B, 2, none⟩ (.int .i64 r)).setCell ⟨B, 3, none⟩ (.int .i64 s)) B p q r s := by
  refine ⟨?_, ?_, ?_, ?_, ?_, ?_, ?_, ?_⟩
  · exact (World.cell?_setCell_other _ _ _ _ (by simp)).trans ((World.cell?_setCell_other _ _ _ _ (by simp)).trans ((World.cell?_setCell_other _ _ _ _ (by simp)).trans (World.cell?_setCell_same _ _ _ h.c0)))
  · exact (World.cell?_setCell_other _ _ _ _ (by simp)).trans ((World.cell?_setCell_other _ _ _ _ (by simp)).trans (World.cell?_setCell_same _ _ _ ((World.cell?_setCell_other _ _ _ _ (by simp)).trans h.c1)))
  · exact (World.cell?_setCell_other _ _ _ _ (by simp)).trans (World.cell?_setCell_same _ _ _ ((World.cell?_setCell_other _ _ _ _ (by simp)).trans ((World.cell?_setCell_other _ _ _ _ (by simp)).trans h.c2)))
  · exact World.cell?_setCell_same _ _ _ ((World.cell?_setCell_other _ _ _ _ (by simp)).trans ((World.cell?_setCell_other _ _ _ _ (by simp)).trans ((World.cell?_setCell_other _ _ _ _ (by simp)).trans h.c3)))
  · simp only [World.frozen?_setCell]; exact h.f0
  · simp only [World.frozen?_setCell]; exact h.f1
  · simp only [World.frozen?_setCell]; exact h.f2
  · simp only [World.frozen?_setCell]; exact h.f3
theorem setQ_far (w : World) (B b : Nat) (p q r s : Int) (h : b ≠ B) :
    ((((w.setCell ⟨B, 0, none⟩ (.int .i64 p)).setCell ⟨B, 1, none⟩ (.int .i64 q)).setCell ⟨B, 2, none⟩ (.int .i64 r)).setCell ⟨B, 3, none⟩ (.int .i64 s)).heap[b]? = w.heap[b]? := by
  rw [heap_setCell_other _ _ b _ h, heap_setCell_other _ _ b _ h, heap_setCell_other _ _ b _ h, heap_setCell_other _ _ b _ h]
theorem setQ_later {w0 w : World} {B : Nat} (h : Later w0 w) (hB : w0.heap.size ≤ B) (p q r s : Int) :
    Later w0 ((((w.setCell ⟨B, 0, none⟩ (.int .i64 p)).setCell ⟨B, 1, none⟩ (.int .i64 q)).setCell ⟨B, 2, none⟩ (.int .i64 r)).setCell ⟨B, 3, none⟩ (.int .i64 s)) :=
  Below.setCell (Below.setCell (Below.setCell (Below.setCell h hB _) hB _) hB _) hB _
theorem setQ_cell {w : World} {B b k : Nat} {v : Value} (p q r s : Int) (h : b ≠ B) (hc : w.cell? ⟨b, k, none⟩ = some v) :
    ((((w.setCell ⟨B, 0, none⟩ (.int .i64 p)).setCell ⟨B, 1, none⟩ (.int .i64 q)).setCell ⟨B, 2, none⟩ (.int .i64 r)).setCell ⟨B, 3, none⟩ (.int .i64 s)).cell? ⟨b, k, none⟩ = some v :=
  cell_keep hc (setQ_far w B b p q r s h)
theorem QBox.ints {w : World} {B : Nat} {a b c d : Int} (h : QBox w B a b c d) : Ints w (.slice (some ⟨B, 0, none⟩) 4 4) [a, b, c, d] := by
  refine ⟨_, 4, rfl, by simp, fun i hi => ⟨_, rfl, ?_⟩⟩
  rw [addr_add0]
  have h4 : i = 0 ∨ i = 1 ∨ i = 2 ∨ i = 3 := by simp at hi; omega
  rcases h4 with rfl | rfl | rfl | rfl
  · exact h.c0
  · exact h.c1
  · exact h.c2
  · exact h.c3
/-- one cell is written -/
theorem QBox.one {w : World} {B : Nat} {a b c d : Int} (h : QBox w B a b c d) (i : Nat) (hi : i < 4) (x : Int) :
    ∃ p q r s, [a, b, c, d].set i x = [p, q, r, s] ∧ QBox (w.setCell ⟨B, i, none⟩ (.int .i64 x)) B p q r s := by
  have h4 : i = 0 ∨ i = 1 ∨ i = 2 ∨ i = 3 := by omega
  rcases h4 with rfl | rfl | rfl | rfl
  · exact ⟨x, b, c, d, rfl, World.cell?_setCell_same _ _ _ h.c0, (World.cell?_setCell_other _ _ _ _ (by simp)).trans h.c1, (World.cell?_setCell_other _ _ _ _ (by simp)).trans h.c2, (World.cell?_setCell_other _ _ _ _ (by simp)).trans h.c3, by rw [World.frozen?_setCell]; exact h.f0, by rw [World.frozen?_setCell]; exact h.f1, by rw [World.frozen?_setCell]; exact h.f2, by rw [World.frozen?_setCell]; exact h.f3⟩
  · exact ⟨a, x, c, d, rfl, (World.cell?_setCell_other _ _ _ _ (by simp)).trans h.c0, World.cell?_setCell_same _ _ _ h.c1, (World.cell?_setCell_other _ _ _ _ (by simp)).trans h.c2, (World.cell?_setCell_other _ _ _ _ (by simp)).trans h.c3, by rw [World.frozen?_setCell]; exact h.f0, by rw [World.frozen?_setCell]; exact h.f1, by rw [World.frozen?_setCell]; exact h.f2, by rw [World.frozen?_setCell]; exact h.f3⟩
  · exact ⟨a, b, x, d, rfl, (World.cell?_setCell_other _ _ _ _ (by simp)).trans h.c0, (World.cell?_setCell_other _ _ _ _ (by simp)).trans h.c1, World.cell?_setCell_same _ _ _ h.c2, (World.cell?_setCell_other _ _ _ _ (by simp)).trans h.c3, by rw [World.frozen?_setCell]; exact h.f0, by rw [World.frozen?_setCell]; exact h.f1, by rw [World.frozen?_setCell]; exact h.f2, by rw [World.frozen?_setCell]; exact h.f3⟩
  · exact ⟨a, b, c, x, rfl, (World.cell?_setCell_other _ _ _ _ (by simp)).trans h.c0, (World.cell?_setCell_other _ _ _ _ (by simp)).trans h.c1, (World.cell?_setCell_other _ _ _ _ (by simp)).trans h.c2, World.cell?_setCell_same _ _ _ h.c3, by rw [World.frozen?_setCell]; exact h.f0, by rw [World.frozen?_setCell]; exact h.f1, by rw [World.frozen?_setCell]; exact h.f2, by rw [World.frozen?_setCell]; exact h.f3⟩
theorem QBox.at {w : World} {B : Nat} {a b c d : Int} (h : QBox w B a b c d) (i : Nat) (hi : i < 4) : w.cell? ⟨B, i, none⟩ = some (.int .i64 ([a, b, c, d].getD i 0)) ∧ w.frozen? ⟨B, i, none⟩ = false := by
  have h4 : i = 0 ∨ i = 1 ∨ i = 2 ∨ i = 3 := by omega
  rcases h4 with rfl | rfl | rfl | rfl
  · exact ⟨h.c0, h.f0⟩
  · exact ⟨h.c1, h.f1⟩
  · exact ⟨h.c2, h.f2⟩
  · exact ⟨h.c3, h.f3⟩
/-- one result, a variable of its own -/
theorem results_cellQ {fn : Func} {p : Tmp} {ty : TypeId} (h : fn.results = #[.cell p ty]) (tmps : Array Value) (P : Program) (w : World) :
    (results fn tmps).run P w = ((asAddr (tmps.getD p undef)).run P w).andThen fun a w₁ => (loadVar ty a).run P w₁ := by
  simp only [results, h]
  simp [Sem.run_bind, Result.andThen]

set_option maxRecDepth 20000 in
theorem sumS_any (a b c d : Int) (w : World) (hm : Md a b c d) :
    Calls Try.prog 73 #[.agg #[.int .i64 a, .int .i64 b, .int .i64 c, .int .i64 d]] w fun e w' => e = .returned (.int .i64 (a + b + c + d)) ∧ Later w w' := by
  obtain ⟨a1, a2, b1, b2, c1, c2, d1, d2⟩ := hm
  have HL := hid (Later.alloc w (.cells #[.int .i64 a, .int .i64 b, .int .i64 c, .int .i64 d] 80))
  obtain ⟨k0, k1, k2, k3, _, _, _, _⟩ := QBox.new w a b c d
  go_enter Try.func73, Try.ntmps73
  go_wp2_with fail
  generalize w.alloc (.cells #[.int .i64 a, .int .i64 b, .int .i64 c, .int .i64 d] 80) = w1 at k0 k1 k2 k3 HL ⊢
  go_wp2_with fail
  go_ret
  exact ⟨rfl, HL.out⟩
theorem sumS_as (a b c d s : Int) (w : World) (hm : Md a b c d) (hs : a + b + c + d = s) :
    Calls Try.prog 73 #[.agg #[.int .i64 a, .int .i64 b, .int .i64 c, .int .i64 d]] w fun e w' => e = .returned (.int .i64 s) ∧ Later w w' := by
  subst hs; exact sumS_any a b c d w hm

/-- the greatest of the first k numbers -/
def maxTo (zs : List Int) (k : Nat) : Int := zs.getD (gTo zs k) 0
set_option maxHeartbeats 1000000 in
theorem maxI_any (v : Value) (zs : List Int) (w : World) (h0 : 0 < zs.length) (h : Ints w v zs) :
    Calls Try.prog 81 #[v] w fun e w' => e = .returned (.int .i64 (zs.getD (gIx zs) 0)) ∧ w = w' := by
  obtain ⟨p, cap, rfl, hl, hc⟩ := h
  obtain ⟨ad0, rfl, hcell0⟩ := hc 0 h0
  rw [show ad0.add 0 = ad0 by simp [Addr.add]] at hcell0
  have HC := hid hc
  have hl1 : (1 : Int) ≤ (zs.length : Int) := by omega
  have HG := hid (show zs.getD (gTo zs 1) 0 = zs.getD 0 0 by simp [gTo])
  obtain ⟨z0, hz0⟩ : ∃ z, zs.getD 0 0 = z := ⟨_, rfl⟩
  rw [hz0] at hcell0 HG
  clear hc hz0
  go_enter Try.func81, Try.ntmps81
  go_wp2_with fail
  go_loop [3, 4] (fun m i => ∃ k : Nat, 1 ≤ k ∧ k ≤ zs.length ∧ i = .int .i64 k ∧ m = .int .i64 (zs.getD (gTo zs k) 0)) (fun _ i => zs.length - (intOf i).toNat)
  case atStart => exact ⟨1, by omega, by omega, rfl, by rw [HG.out]⟩
  case round =>
    obtain ⟨k, hk1, hk, rfl, rfl⟩ := hrel
    obtain ⟨m, hm⟩ : ∃ m, zs.getD (gTo zs k) 0 = m := ⟨_, rfl⟩
    rw [hm]
    have HM := hid hm
    clear hm
    by_cases hlt : k < zs.length
    · obtain ⟨ad, e1, hcell⟩ := HC.out k hlt
      obtain rfl : ad0 = ad := by simpa using e1
      clear e1
      obtain ⟨x, hx⟩ : ∃ x, zs.getD k 0 = x := ⟨_, rfl⟩
      have HX := hid hx
      rw [hx] at hcell
      clear hx
      have HN : Hid (zs.getD (gTo zs (k + 1)) 0 = if m < x then x else m) := hid (by unfold gTo; rw [HM.out, HX.out]; split <;> assumption)
      obtain ⟨j, rfl⟩ : ∃ j, k = j + 1 := ⟨k - 1, by omega⟩
      rw [add_at'] at hcell
      by_cases hgt : m < x
      · have HN2 := hid (HN.out.trans (if_pos hgt))
        clear HN
        go_wp2_with fail
        go_round
        case rel => exact ⟨j + 2, by omega, by omega, by go_num, by rw [HN2.out]⟩
        case measure => simp [intOf]; omega
      · have HN2 := hid (HN.out.trans (if_neg hgt))
        clear HN
        go_wp2_with fail
        go_round
        case rel => exact ⟨j + 2, by omega, by omega, by go_num, by rw [HN2.out]⟩
        case measure => simp [intOf]; omega
    · obtain rfl : k = zs.length := by omega
      go_wp2_with fail
      go_ret
      exact ⟨ret_int (by rw [← HM.out]; rfl), rfl⟩


set_option maxHeartbeats 1000000 in
theorem indexI_any (v : Value) (zs : List Int) (x : Int) (q : Nat) (w : World) (hq : q < zs.length) (hx : zs.getD q 0 = x) (hne : ∀ j, j < q → zs.getD j 0 ≠ x) (h : Ints w v zs) :
    Calls Try.prog 80 #[v, .int .i64 x] w fun e w' => e = .returned (.int .i64 (q : Nat)) ∧ w = w' := by
  obtain ⟨p, cap, rfl, hl, hc⟩ := h
  have HC := hid hc
  have HX := hid hx
  have HNE := hid hne
  clear hc hx hne
  go_enter Try.func80, Try.ntmps80
  go_wp2_with fail
  go_loop [8] (fun i => ∃ k : Nat, k ≤ q ∧ i = .int .i64 k) (fun i => q - (intOf i).toNat)
  case atStart => exact ⟨0, Nat.zero_le _, rfl⟩
  case round =>
    obtain ⟨k, hk, rfl⟩ := hrel
    have hkl : k < zs.length := by omega
    obtain ⟨ad, rfl, hcell⟩ := HC.out k hkl
    obtain ⟨y, hy⟩ : ∃ y, zs.getD k 0 = y := ⟨_, rfl⟩
    rw [hy] at hcell
    by_cases hlt : k < q
    · have hne2 : (x == y) = false := by have := HNE.out k hlt; rw [hy] at this; simp; exact fun e => this e.symm
      clear hy
      go_wp2_with fail
      go_round
      case rel => exact ⟨k + 1, hlt, by go_num⟩
      case measure => simp [intOf]; omega
    · obtain rfl : k = q := by omega
      obtain rfl : y = x := hy.symm.trans HX.out
      have he : (y == y) = true := by simp
      clear hy
      go_wp2_with fail
      go_ret
      exact ⟨rfl, rfl⟩
theorem gIx_first (zs : List Int) : ∀ j, j < gIx zs → zs.getD j 0 ≠ zs.getD (gIx zs) 0 := fun j hj => by have := gTo_least zs zs.length j hj; unfold gIx; omega
set_option maxRecDepth 20000 in
set_option maxHeartbeats 1000000 in
theorem indexOfGreatest_any (a b c d : Int) (w : World) :
    Calls Try.prog 79 #[.agg #[.int .i64 a, .int .i64 b, .int .i64 c, .int .i64 d]] w fun e w' => e = .returned (.int .i64 (gIx [a, b, c, d] : Nat)) ∧ Later w w' := by
  have HL := hid (Later.alloc w (.cells #[.int .i64 a, .int .i64 b, .int .i64 c, .int .i64 d] 80))
  have HI := hid (QBox.new w a b c d).ints
  have HG := hid (show gIx [a, b, c, d] < [a, b, c, d].length from gTo_lt _ _ (by simp))
  have H4 := hid (show 0 < [a, b, c, d].length by simp)
  have HF := hid (gIx_first [a, b, c, d])
  obtain ⟨zs, hz⟩ : ∃ zs, [a, b, c, d] = zs := ⟨_, rfl⟩
  rw [hz] at HI HG H4 HF ⊢
  clear hz
  go_enter Try.func79, Try.ntmps79
  go_wp2_with fail
  generalize w.alloc (.cells #[.int .i64 a, .int .i64 b, .int .i64 c, .int .i64 d] 80) = w1 at HI HL ⊢
  go_quiet (first | (go_at_call 81; exact Calls.quiet_of_same ((maxI_any _ zs _ H4.out (HI.out.later (Later.drewN w1 _))).mono fun _ _ ⟨a, b⟩ => ⟨a, b.symm⟩)) | (go_at_call 80; exact Calls.quiet_of_same ((indexI_any _ zs _ _ _ HG.out rfl HF.out (HI.out.later (Later.drewN w1 _))).mono fun _ _ ⟨a, b⟩ => ⟨a, b.symm⟩)))
  go_wp2_with fail
  go_ret
  exact ⟨rfl, HL.out.trans (Later.drewN _ _)⟩
theorem indexOfGreatest_as (a b c d : Int) (g : Nat) (w : World) (hg : gIx [a, b, c, d] = g) :
    Calls Try.prog 79 #[.agg #[.int .i64 a, .int .i64 b, .int .i64 c, .int .i64 d]] w fun e w' => e = .returned (.int .i64 (g : Nat)) ∧ Later w w' := by
  subst hg; exact indexOfGreatest_any a b c d w

def QuadRes (w : World) (zs : List Int) (e : Ending) (w' : World) : Prop := ∃ p q r s, zs = [p, q, r, s] ∧ e = .returned (.agg #[.int .i64 p, .int .i64 q, .int .i64 r, .int .i64 s]) ∧ Later w w'
set_option maxRecDepth 20000 in
set_option maxHeartbeats 2000000 in
theorem swapped_any (a b c d : Int) (i : Nat) (w : World) (hi : i < 4) (hm : Md a b c d) :
    Calls Try.prog 78 #[.agg #[.int .i64 a, .int .i64 b, .int .i64 c, .int .i64 d], .int .i64 i] w fun e w' => QuadRes w (swL [a, b, c, d] i) e w' := by
  have hA := Later.alloc w (.cells #[.int .i64 a, .int .i64 b, .int .i64 c, .int .i64 d] 80)
  have hA2 := Later.alloc (w.alloc (.cells #[.int .i64 a, .int .i64 b, .int .i64 c, .int .i64 d] 80)) (.cells #[.int .i64 0, .int .i64 0, .int .i64 0, .int .i64 0] 80)
  have HB := hid ((QBox.new w a b c d).later hA2)
  have hR := QBox.new (w.alloc (.cells #[.int .i64 a, .int .i64 b, .int .i64 c, .int .i64 d] 80)) 0 0 0 0
  rw [show (w.alloc (.cells #[.int .i64 a, .int .i64 b, .int .i64 c, .int .i64 d] 80)).heap.size = w.heap.size + 1 by simp] at hR
  have HR := hid hR
  have HL := hid (hA.trans hA2)
  have hmi := hm.getD i hi
  obtain ⟨x, hx⟩ : ∃ x, [a, b, c, d].getD i 0 = x := ⟨_, rfl⟩
  have HX := hid hx
  rw [hx] at hmi
  have HSW := hid (show swN [a, b, c, d] i = 2 * (a + b + c + d - x) - x by unfold swN; rw [sum4, hx])
  obtain ⟨x1, x2⟩ := hmi
  obtain ⟨s, hs⟩ : ∃ s, a + b + c + d = s := ⟨_, rfl⟩
  have hsb : -40000000 ≤ s ∧ s ≤ 40000000 := by have := hm.a1; have := hm.a2; have := hm.b1; have := hm.b2; have := hm.c1; have := hm.c2; have := hm.d1; have := hm.d2; omega
  obtain ⟨s1, s2⟩ := hsb
  have HSM := hid (fun (w0 : World) => sumS_as a b c d s w0 hm hs)
  rw [hs] at HSW
  have ww1 : IntKind.i64.wrap (s - x) = s - x := by rw [IntWalk.i64_left]; exact IntWalk.wrap64_in _ (by omega)
  have ww2 : IntKind.i64.wrap (2 * (s - x)) = 2 * (s - x) := by rw [IntWalk.i64_left]; exact IntWalk.wrap64_in _ (by omega)
  have ww3 : IntKind.i64.wrap (2 * (s - x) - x) = 2 * (s - x) - x := by rw [IntWalk.i64_left]; exact IntWalk.wrap64_in _ (by omega)
  have hiI : (i : Int) < 4 := by omega
  have i0 : (0 : Int) ≤ (i : Int) := by omega
  have HI := hid hi
  clear hA hA2 hR hm hx hs hi
  go_enter Try.func78, Try.ntmps78
  go_upto_region 1 with fail
  generalize (w.alloc (.cells #[.int .i64 a, .int .i64 b, .int .i64 c, .int .i64 d] 80)).alloc (.cells #[.int .i64 0, .int .i64 0, .int .i64 0, .int .i64 0] 80) = w1 at HB HR HL ⊢
  obtain ⟨B, hB⟩ : ∃ B, w.heap.size = B := ⟨_, rfl⟩
  have HBW := hid (show w.heap.size ≤ B by omega)
  rw [hB] at HB HR ⊢
  clear hB
  obtain ⟨c0, c1, c2, c3, f0, f1, f2, f3⟩ := HB.out
  have ci := (HB.out.at i HI.out).1
  have fi := (HB.out.at i HI.out).2
  rw [HX.out] at ci
  go_region_with (first | (go_at_call 73; refine (HSM.out _).mono ?_; rintro e w3 ⟨rfl, hL3⟩; have hL3' := (Later.drew w1).trans hL3; have di := hL3'.cell ci; have gi := hL3'.frozen ci fi; have HB3 := hid (HB.out.later hL3'); have HR3 := hid (HR.out.later hL3'); have HL3 := hid (HL.out.trans hL3'); clear hL3 hL3'))
  all_goals
    obtain ⟨p, q, r, t, he, hb4⟩ := HB3.out.one i HI.out (2 * (s - x) - x)
    have HB4 := hid hb4
    have HR4 := hid (HR3.out.keep (heap_setCell_other w3 ⟨B, i, none⟩ (B + 1) (.int .i64 (2 * (s - x) - x)) (by simp)))
    have HL4 := hid (show Later w (w3.setCell ⟨B, i, none⟩ (.int .i64 (2 * (s - x) - x))) from HL3.out.setCell HBW.out _)
    have HE := hid he
    generalize w3.setCell ⟨B, i, none⟩ (.int .i64 (2 * (s - x) - x)) = w4 at HB4 HR4 HL4 ⊢
    clear c0 c1 c2 c3 f0 f1 f2 f3 ci fi di gi he hb4
    obtain ⟨c0, c1, c2, c3, _, _, _, _⟩ := HB4.out
    obtain ⟨d0, d1, d2, d3, f0, f1, f2, f3⟩ := HR4.out
    go_wp2_with fail
    have HR5 := hid (HR4.out.set p q r t)
    have HL5 := hid (setQ_later HL4.out (show w.heap.size ≤ B + 1 by have := HBW.out; omega) p q r t)
    clear c0 c1 c2 c3 d0 d1 d2 d3 f0 f1 f2 f3
    generalize ((((w4.setCell ⟨B + 1, 0, none⟩ (.int .i64 p)).setCell ⟨B + 1, 1, none⟩ (.int .i64 q)).setCell ⟨B + 1, 2, none⟩ (.int .i64 r)).setCell ⟨B + 1, 3, none⟩ (.int .i64 t)) = w5 at HR5 HL5 ⊢
    obtain ⟨d0, d1, d2, d3, _, _, _, _⟩ := HR5.out
    refine bodyPost_ret (v := .agg #[.int .i64 p, .int .i64 q, .int .i64 r, .int .i64 t]) ?_ rfl ⟨p, q, r, t, by unfold swL; rw [HSW.out]; exact HE.out, rfl, HL5.out⟩
    rw [results_cellQ rfl]
    go_simp


/-- behind the swap down; a root as it is -/
def lowQ (zs : List Int) : List Int := if lastQ zs = true then zs else nextQ zs
theorem lowQ_last {zs : List Int} (h : lastQ zs = true) : lowQ zs = zs := if_pos h
theorem lowQ_next {zs : List Int} (h : lastQ zs = false) : lowQ zs = nextQ zs := if_neg (by rw [h]; simp)
/-- the numbers behind a swap bear sums, too -/
theorem QD.md2 {a b c d : Int} (h : QD a b c d) {p q r s : Int} (he : swL [a, b, c, d] (gIx [a, b, c, d]) = [p, q, r, s]) : Md p q r s := by
  have hg := gIx_lt ((apB_iff a b c d).2 h)
  have hb := swN_bd ((apB_iff a b c d).2 h) _ hg
  obtain ⟨⟨a1, a2⟩, ⟨b1, b2⟩, ⟨c1, c2⟩, ⟨d1, d2⟩, _, _⟩ := h
  generalize gIx [a, b, c, d] = g at *
  generalize hn : swN [a, b, c, d] g = n at *
  have e : swL [a, b, c, d] g = [a, b, c, d].set g n := by unfold swL; rw [hn]
  rw [e] at he
  have h4 : g = 0 ∨ g = 1 ∨ g = 2 ∨ g = 3 := by omega
  rcases h4 with rfl | rfl | rfl | rfl <;> simp at he <;> obtain ⟨rfl, rfl, rfl, rfl⟩ := he <;> exact ⟨by omega, by omega, by omega, by omega, by omega, by omega, by omega, by omega⟩
set_option maxRecDepth 20000 in
set_option maxHeartbeats 4000000 in
theorem lowered_any (a b c d : Int) (w : World) (hq : QD a b c d) :
    Calls Try.prog 75 #[.agg #[.int .i64 a, .int .i64 b, .int .i64 c, .int .i64 d]] w fun e w' => QuadRes w (lowQ [a, b, c, d]) e w' := by
  have hA := Later.alloc w (.cells #[.int .i64 a, .int .i64 b, .int .i64 c, .int .i64 d] 80)
  have hA2 := Later.alloc (w.alloc (.cells #[.int .i64 a, .int .i64 b, .int .i64 c, .int .i64 d] 80)) (.cells #[.int .i64 0, .int .i64 0, .int .i64 0, .int .i64 0] 80)
  have HB := hid ((QBox.new w a b c d).later hA2)
  have hR := QBox.new (w.alloc (.cells #[.int .i64 a, .int .i64 b, .int .i64 c, .int .i64 d] 80)) 0 0 0 0
  rw [show (w.alloc (.cells #[.int .i64 a, .int .i64 b, .int .i64 c, .int .i64 d] 80)).heap.size = w.heap.size + 1 by simp] at hR
  have HR := hid hR
  have HL := hid (hA.trans hA2)
  have HM := hid hq.md
  have hlen : (swL [a, b, c, d] (gIx [a, b, c, d])).length = 4 := swL_len _ _
  obtain ⟨p, q, r, s, hsw⟩ := len4 hlen
  have HM2 := hid (hq.md2 hsw)
  have HG := hid (gIx_lt ((apB_iff a b c d).2 hq))
  have hsum := swL_sum (zs := [a, b, c, d]) (gIx [a, b, c, d]) (gIx_lt ((apB_iff a b c d).2 hq))
  rw [hsw, sum4, sum4] at hsum
  have HLST := hid (show lastQ [a, b, c, d] = decide (a + b + c + d ≤ p + q + r + s) by
    unfold lastQ
    by_cases h1 : [a, b, c, d].getD (gIx [a, b, c, d]) 0 ≤ swN [a, b, c, d] (gIx [a, b, c, d])
    · rw [decide_eq_true h1, decide_eq_true (by omega)]
    · rw [decide_eq_false h1, decide_eq_false (by omega)])
  have HNX := hid (show nextQ [a, b, c, d] = [p, q, r, s] from hsw)
  obtain ⟨g, hg⟩ : ∃ g, gIx [a, b, c, d] = g := ⟨_, rfl⟩
  have HIX := hid (fun (w0 : World) => indexOfGreatest_as a b c d g w0 hg)
  rw [hg] at HG hsw
  have HSP := hid (fun (w0 : World) => show Calls Try.prog 78 #[.agg #[.int .i64 a, .int .i64 b, .int .i64 c, .int .i64 d], .int .i64 g] w0 fun e w' => e = .returned (.agg #[.int .i64 p, .int .i64 q, .int .i64 r, .int .i64 s]) ∧ Later w0 w' from (swapped_any a b c d g w0 HG.out HM.out).mono (fun e w' hh => by
    obtain ⟨p', q', r', s', h1, h2, h3⟩ := hh
    rw [hsw] at h1
    simp only [List.cons.injEq, and_true] at h1
    obtain ⟨rfl, rfl, rfl, rfl⟩ := h1
    exact ⟨h2, h3⟩))
  obtain ⟨S, hS⟩ : ∃ S, a + b + c + d = S := ⟨_, rfl⟩
  obtain ⟨S2, hS2⟩ : ∃ S2, p + q + r + s = S2 := ⟨_, rfl⟩
  have HS1 := hid (fun (w0 : World) => sumS_as a b c d S w0 HM.out hS)
  have HS2 := hid (fun (w0 : World) => sumS_as p q r s S2 w0 HM2.out hS2)
  rw [hS, hS2] at HLST
  clear hA hA2 hR hq hlen hsum hg hsw hS hS2
  go_enter Try.func75, Try.ntmps75
  go_upto_region 1 with fail
  generalize (w.alloc (.cells #[.int .i64 a, .int .i64 b, .int .i64 c, .int .i64 d] 80)).alloc (.cells #[.int .i64 0, .int .i64 0, .int .i64 0, .int .i64 0] 80) = w1 at HB HR HL ⊢
  obtain ⟨B, hB⟩ : ∃ B, w.heap.size = B := ⟨_, rfl⟩
  have HBW := hid (show w.heap.size ≤ B by omega)
  rw [hB] at HB HR ⊢
  clear hB
  obtain ⟨c0, c1, c2, c3, f0, f1, f2, f3⟩ := HB.out
  go_region_held3 (fun w' => w'.cell? ⟨B, 0, none⟩ = some (.int .i64 a) ∧ w'.cell? ⟨B, 1, none⟩ = some (.int .i64 b) ∧ w'.cell? ⟨B, 2, none⟩ = some (.int .i64 c) ∧ w'.cell? ⟨B, 3, none⟩ = some (.int .i64 d)) (first | with_reducible exact ⟨c0, c1, c2, c3⟩ | with_reducible exact ⟨d0, d1, d2, d3⟩ | with_reducible exact ⟨e0, e1, e2, e3⟩ | with_reducible exact ⟨setQ_cell _ _ _ _ (by assumption) e0, setQ_cell _ _ _ _ (by assumption) e1, setQ_cell _ _ _ _ (by assumption) e2, setQ_cell _ _ _ _ (by assumption) e3⟩ | with_reducible exact ⟨setQ_cell _ _ _ _ (by assumption) ((Later.alloc _ _).cell e0), setQ_cell _ _ _ _ (by assumption) ((Later.alloc _ _).cell e1), setQ_cell _ _ _ _ (by assumption) ((Later.alloc _ _).cell e2), setQ_cell _ _ _ _ (by assumption) ((Later.alloc _ _).cell e3)⟩ | go_keep) (first | (go_at_call 79; first | (refine (HIX.out w1.drew).mono ?_; rintro e w3 ⟨rfl, hL3⟩; have hL3' := (Later.drew w1).trans hL3; have d0 := hL3'.cell c0; have d1 := hL3'.cell c1; have d2 := hL3'.cell c2; have d3 := hL3'.cell c3; have H3 := hid hL3'; have x1 : B ≠ w1.heap.size := (by have := HB.out.lt; omega); have x3 : B ≠ w3.heap.size := (by have := HB.out.lt; have := H3.out.size; omega); have HN := hid (True.intro); clear hL3 hL3') | (refine (HIX.out (w1.drew.alloc (.cells #[.int .i64 0, .int .i64 0, .int .i64 0, .int .i64 0] 80))).mono ?_; rintro e w3 ⟨rfl, hL3⟩; have hL3' := ((Later.drew w1).trans (Later.alloc w1.drew (.cells #[.int .i64 0, .int .i64 0, .int .i64 0, .int .i64 0] 80))).trans hL3; have d0 := hL3'.cell c0; have d1 := hL3'.cell c1; have d2 := hL3'.cell c2; have d3 := hL3'.cell c3; have HN := hid (show QBox w3 w1.heap.size 0 0 0 0 from (QBox.new w1.drew 0 0 0 0).later hL3); have H3 := hid hL3'; have x1 : B ≠ w1.heap.size := (by have := HB.out.lt; omega); have x3 : B ≠ w3.heap.size := (by have := HB.out.lt; have := H3.out.size; omega); clear hL3 hL3')) | (go_at_call 78; first | (have hh : QBox w3 w1.heap.size 0 0 0 0 := HN.out; refine (HSP.out w3).mono ?_; rintro e w4 ⟨rfl, hL4⟩; have HM4 := hid (hh.later hL4); have HL4 := hid (H3.out.trans hL4); have x4 : B ≠ w4.heap.size := (by have := HB.out.lt; have := HL4.out.size; omega); have e0 := HL4.out.cell c0; have e1 := HL4.out.cell c1; have e2 := HL4.out.cell c2; have e3 := HL4.out.cell c3; clear hL4 hh; obtain ⟨n0, n1, n2, n3, g0, g1, g2, g3⟩ := HM4.out) | (refine (HSP.out w3).mono ?_; rintro e w4 ⟨rfl, hL4⟩; have HL4 := hid (H3.out.trans hL4); have x4 : B ≠ w4.heap.size := (by have := HB.out.lt; have := HL4.out.size; omega); have e0 := HL4.out.cell c0; have e1 := HL4.out.cell c1; have e2 := HL4.out.cell c2; have e3 := HL4.out.cell c3; clear hL4) | (refine (HSP.out (w3.alloc (.cells #[.int .i64 0, .int .i64 0, .int .i64 0, .int .i64 0] 80))).mono ?_; rintro e w4 ⟨rfl, hL4⟩; have HM4 := hid ((QBox.new w3 0 0 0 0).later hL4); have HL4 := hid ((H3.out.trans (Later.alloc w3 (.cells #[.int .i64 0, .int .i64 0, .int .i64 0, .int .i64 0] 80))).trans hL4); have x4 : B ≠ w4.heap.size := (by have := HB.out.lt; have := HL4.out.size; omega); have e0 := HL4.out.cell c0; have e1 := HL4.out.cell c1; have e2 := HL4.out.cell c2; have e3 := HL4.out.cell c3; clear hL4; obtain ⟨n0, n1, n2, n3, g0, g1, g2, g3⟩ := HM4.out)))
  · have hW : Later w1 (w4.alloc (.cells #[.int .i64 p, .int .i64 q, .int .i64 r, .int .i64 s] 80)) := HL4.out.trans (Later.alloc _ _)
    have HX5 := hid (QBox.new w4 p q r s)
    have HB5 := hid (HB.out.later hW)
    have HR5 := hid (HR.out.later hW)
    have HL5 := hid (HL.out.trans hW)
    obtain ⟨X, hX⟩ : ∃ X, w4.heap.size = X := ⟨_, rfl⟩
    rw [hX] at HX5 ⊢
    generalize w4.alloc (.cells #[.int .i64 p, .int .i64 q, .int .i64 r, .int .i64 s] 80) = w5 at HX5 HB5 HR5 HL5 ⊢
    clear hW hX x4 d0 d1 d2 d3 e0 e1 e2 e3 x1 x3 HN
    clear c0 c1 c2 c3 f0 f1 f2 f3 HB HR HL HIX HSP H3 HL4
    obtain ⟨y0, y1, y2, y3, _, _, _, _⟩ := HX5.out
    obtain ⟨y4, y5, y6, y7, _, _, _, _⟩ := HB5.out
    have TK := hid (show (0 : Nat) = 0 from rfl)
    go_wp2_with fail
    go_region_held3 (fun w' => w'.cell? ⟨X, 0, none⟩ = some (.int .i64 p) ∧ w'.cell? ⟨X, 1, none⟩ = some (.int .i64 q) ∧ w'.cell? ⟨X, 2, none⟩ = some (.int .i64 r) ∧ w'.cell? ⟨X, 3, none⟩ = some (.int .i64 s) ∧ w'.cell? ⟨B, 0, none⟩ = some (.int .i64 a) ∧ w'.cell? ⟨B, 1, none⟩ = some (.int .i64 b) ∧ w'.cell? ⟨B, 2, none⟩ = some (.int .i64 c) ∧ w'.cell? ⟨B, 3, none⟩ = some (.int .i64 d)) (first | with_reducible exact ⟨y0, y1, y2, y3, y4, y5, y6, y7⟩ | with_reducible exact ⟨z0, z1, z2, z3, z4, z5, z6, z7⟩ | with_reducible exact ⟨u0, u1, u2, u3, u4, u5, u6, u7⟩ | go_keep) (first | (go_at_call 73; first | (have hh := TK; clear hh; first | (with_reducible refine (HS2.out w5.drew).mono ?_; rintro e w6 ⟨rfl, hL6⟩; have hL6' := (Later.drew w5).trans hL6; have z0 := hL6'.cell y0; have z1 := hL6'.cell y1; have z2 := hL6'.cell y2; have z3 := hL6'.cell y3; have z4 := hL6'.cell y4; have z5 := hL6'.cell y5; have z6 := hL6'.cell y6; have z7 := hL6'.cell y7; have H6 := hid hL6'; clear hL6 hL6' TK) | (with_reducible refine (HS1.out w5.drew).mono ?_; rintro e w6 ⟨rfl, hL6⟩; have hL6' := (Later.drew w5).trans hL6; have z0 := hL6'.cell y0; have z1 := hL6'.cell y1; have z2 := hL6'.cell y2; have z3 := hL6'.cell y3; have z4 := hL6'.cell y4; have z5 := hL6'.cell y5; have z6 := hL6'.cell y6; have z7 := hL6'.cell y7; have H6 := hid hL6'; clear hL6 hL6' TK)) | (with_reducible refine (HS2.out w6).mono ?_; rintro e w7 ⟨rfl, hL7⟩; have hL7' := H6.out.trans hL7; have u0 := hL7'.cell y0; have u1 := hL7'.cell y1; have u2 := hL7'.cell y2; have u3 := hL7'.cell y3; have u4 := hL7'.cell y4; have u5 := hL7'.cell y5; have u6 := hL7'.cell y6; have u7 := hL7'.cell y7; have H7 := hid hL7'; clear hL7 hL7') | (with_reducible refine (HS1.out w6).mono ?_; rintro e w7 ⟨rfl, hL7⟩; have hL7' := H6.out.trans hL7; have u0 := hL7'.cell y0; have u1 := hL7'.cell y1; have u2 := hL7'.cell y2; have u3 := hL7'.cell y3; have u4 := hL7'.cell y4; have u5 := hL7'.cell y5; have u6 := hL7'.cell y6; have u7 := hL7'.cell y7; have H7 := hid hL7'; clear hL7 hL7')))
    all_goals
      by_cases hle : S ≤ S2
      · have HLQ := hid (show lastQ [a, b, c, d] = true by rw [HLST.out, decide_eq_true hle])
        have HB8 := hid (HB5.out.later H7.out)
        have HR8 := hid (HR5.out.later H7.out)
        have HX8 := hid (HX5.out.later H7.out)
        have HL8 := hid (HL5.out.trans H7.out)
        clear y0 y1 y2 y3 y4 y5 y6 y7 z0 z1 z2 z3 z4 z5 z6 z7 u0 u1 u2 u3 u4 u5 u6 u7 H6 H7 HB5 HR5 HX5 HL5
        obtain ⟨c0, c1, c2, c3, _, _, _, _⟩ := HB8.out
        obtain ⟨d0, d1, d2, d3, f0, f1, f2, f3⟩ := HR8.out
        obtain ⟨e0, e1, e2, e3, _, _, _, _⟩ := HX8.out
        go_wp2_with fail
        have HR9 := hid (HR8.out.set a b c d)
        have HL9 := hid (setQ_later HL8.out (show w.heap.size ≤ B + 1 by have := HBW.out; omega) a b c d)
        clear c0 c1 c2 c3 d0 d1 d2 d3 e0 e1 e2 e3 f0 f1 f2 f3
        generalize ((((w7.setCell ⟨B + 1, 0, none⟩ (.int .i64 a)).setCell ⟨B + 1, 1, none⟩ (.int .i64 b)).setCell ⟨B + 1, 2, none⟩ (.int .i64 c)).setCell ⟨B + 1, 3, none⟩ (.int .i64 d)) = w8 at HR9 HL9 ⊢
        obtain ⟨d0, d1, d2, d3, _, _, _, _⟩ := HR9.out
        refine bodyPost_ret (v := .agg #[.int .i64 a, .int .i64 b, .int .i64 c, .int .i64 d]) ?_ rfl ⟨a, b, c, d, by first | exact lowQ_last HLQ.out | exact (lowQ_next HLQ.out).trans HNX.out, rfl, HL9.out⟩
        rw [results_cellQ rfl]
        go_simp
      · have HLQ := hid (show lastQ [a, b, c, d] = false by rw [HLST.out, decide_eq_false hle])
        have HB8 := hid (HB5.out.later H7.out)
        have HR8 := hid (HR5.out.later H7.out)
        have HX8 := hid (HX5.out.later H7.out)
        have HL8 := hid (HL5.out.trans H7.out)
        clear y0 y1 y2 y3 y4 y5 y6 y7 z0 z1 z2 z3 z4 z5 z6 z7 u0 u1 u2 u3 u4 u5 u6 u7 H6 H7 HB5 HR5 HX5 HL5
        obtain ⟨c0, c1, c2, c3, _, _, _, _⟩ := HB8.out
        obtain ⟨d0, d1, d2, d3, f0, f1, f2, f3⟩ := HR8.out
        obtain ⟨e0, e1, e2, e3, _, _, _, _⟩ := HX8.out
        go_wp2_with fail
        have HR9 := hid (HR8.out.set p q r s)
        have HL9 := hid (setQ_later HL8.out (show w.heap.size ≤ B + 1 by have := HBW.out; omega) p q r s)
        clear c0 c1 c2 c3 d0 d1 d2 d3 e0 e1 e2 e3 f0 f1 f2 f3
        generalize ((((w7.setCell ⟨B + 1, 0, none⟩ (.int .i64 p)).setCell ⟨B + 1, 1, none⟩ (.int .i64 q)).setCell ⟨B + 1, 2, none⟩ (.int .i64 r)).setCell ⟨B + 1, 3, none⟩ (.int .i64 s)) = w8 at HR9 HL9 ⊢
        obtain ⟨d0, d1, d2, d3, _, _, _, _⟩ := HR9.out
        refine bodyPost_ret (v := .agg #[.int .i64 p, .int .i64 q, .int .i64 r, .int .i64 s]) ?_ rfl ⟨p, q, r, s, by first | exact lowQ_last HLQ.out | exact (lowQ_next HLQ.out).trans HNX.out, rfl, HL9.out⟩
        rw [results_cellQ rfl]
        go_simp
  · have hw : w1.heap.size ≤ w3.heap.size := H3.out.size
    have hlt := HR.out.lt
    have HX5 := hid (HM4.out.set p q r s)
    have HB5 := hid ((HB.out.later HL4.out).keep (setQ_far w4 w3.heap.size B p q r s (by omega)))
    have HR5 := hid ((HR.out.later HL4.out).keep (setQ_far w4 w3.heap.size (B + 1) p q r s (by omega)))
    have HL5 := hid (setQ_later (HL.out.trans HL4.out) (show w.heap.size ≤ w3.heap.size by have := HL.out.size; omega) p q r s)
    clear hw hlt n0 n1 n2 n3 g0 g1 g2 g3 HM4 d0 d1 d2 d3 e0 e1 e2 e3 x1 x3
    obtain ⟨X, hX⟩ : ∃ X, w3.heap.size = X := ⟨_, rfl⟩
    rw [hX] at HX5 HB5 HR5 HL5 ⊢
    generalize ((((w4.setCell ⟨X, 0, none⟩ (.int .i64 p)).setCell ⟨X, 1, none⟩ (.int .i64 q)).setCell ⟨X, 2, none⟩ (.int .i64 r)).setCell ⟨X, 3, none⟩ (.int .i64 s)) = w5 at HX5 HB5 HR5 HL5 ⊢
    clear hX
    clear c0 c1 c2 c3 f0 f1 f2 f3 HB HR HL HIX HSP H3 HL4
    obtain ⟨y0, y1, y2, y3, _, _, _, _⟩ := HX5.out
    obtain ⟨y4, y5, y6, y7, _, _, _, _⟩ := HB5.out
    have TK := hid (show (0 : Nat) = 0 from rfl)
    go_wp2_with fail
    go_region_held3 (fun w' => w'.cell? ⟨X, 0, none⟩ = some (.int .i64 p) ∧ w'.cell? ⟨X, 1, none⟩ = some (.int .i64 q) ∧ w'.cell? ⟨X, 2, none⟩ = some (.int .i64 r) ∧ w'.cell? ⟨X, 3, none⟩ = some (.int .i64 s) ∧ w'.cell? ⟨B, 0, none⟩ = some (.int .i64 a) ∧ w'.cell? ⟨B, 1, none⟩ = some (.int .i64 b) ∧ w'.cell? ⟨B, 2, none⟩ = some (.int .i64 c) ∧ w'.cell? ⟨B, 3, none⟩ = some (.int .i64 d)) (first | with_reducible exact ⟨y0, y1, y2, y3, y4, y5, y6, y7⟩ | with_reducible exact ⟨z0, z1, z2, z3, z4, z5, z6, z7⟩ | with_reducible exact ⟨u0, u1, u2, u3, u4, u5, u6, u7⟩ | go_keep) (first | (go_at_call 73; first | (have hh := TK; clear hh; first | (with_reducible refine (HS2.out w5.drew).mono ?_; rintro e w6 ⟨rfl, hL6⟩; have hL6' := (Later.drew w5).trans hL6; have z0 := hL6'.cell y0; have z1 := hL6'.cell y1; have z2 := hL6'.cell y2; have z3 := hL6'.cell y3; have z4 := hL6'.cell y4; have z5 := hL6'.cell y5; have z6 := hL6'.cell y6; have z7 := hL6'.cell y7; have H6 := hid hL6'; clear hL6 hL6' TK) | (with_reducible refine (HS1.out w5.drew).mono ?_; rintro e w6 ⟨rfl, hL6⟩; have hL6' := (Later.drew w5).trans hL6; have z0 := hL6'.cell y0; have z1 := hL6'.cell y1; have z2 := hL6'.cell y2; have z3 := hL6'.cell y3; have z4 := hL6'.cell y4; have z5 := hL6'.cell y5; have z6 := hL6'.cell y6; have z7 := hL6'.cell y7; have H6 := hid hL6'; clear hL6 hL6' TK)) | (with_reducible refine (HS2.out w6).mono ?_; rintro e w7 ⟨rfl, hL7⟩; have hL7' := H6.out.trans hL7; have u0 := hL7'.cell y0; have u1 := hL7'.cell y1; have u2 := hL7'.cell y2; have u3 := hL7'.cell y3; have u4 := hL7'.cell y4; have u5 := hL7'.cell y5; have u6 := hL7'.cell y6; have u7 := hL7'.cell y7; have H7 := hid hL7'; clear hL7 hL7') | (with_reducible refine (HS1.out w6).mono ?_; rintro e w7 ⟨rfl, hL7⟩; have hL7' := H6.out.trans hL7; have u0 := hL7'.cell y0; have u1 := hL7'.cell y1; have u2 := hL7'.cell y2; have u3 := hL7'.cell y3; have u4 := hL7'.cell y4; have u5 := hL7'.cell y5; have u6 := hL7'.cell y6; have u7 := hL7'.cell y7; have H7 := hid hL7'; clear hL7 hL7')))
    all_goals
      by_cases hle : S ≤ S2
      · have HLQ := hid (show lastQ [a, b, c, d] = true by rw [HLST.out, decide_eq_true hle])
        have HB8 := hid (HB5.out.later H7.out)
        have HR8 := hid (HR5.out.later H7.out)
        have HX8 := hid (HX5.out.later H7.out)
        have HL8 := hid (HL5.out.trans H7.out)
        clear y0 y1 y2 y3 y4 y5 y6 y7 z0 z1 z2 z3 z4 z5 z6 z7 u0 u1 u2 u3 u4 u5 u6 u7 H6 H7 HB5 HR5 HX5 HL5
        obtain ⟨c0, c1, c2, c3, _, _, _, _⟩ := HB8.out
        obtain ⟨d0, d1, d2, d3, f0, f1, f2, f3⟩ := HR8.out
        obtain ⟨e0, e1, e2, e3, _, _, _, _⟩ := HX8.out
        go_wp2_with fail
        have HR9 := hid (HR8.out.set a b c d)
        have HL9 := hid (setQ_later HL8.out (show w.heap.size ≤ B + 1 by have := HBW.out; omega) a b c d)
        clear c0 c1 c2 c3 d0 d1 d2 d3 e0 e1 e2 e3 f0 f1 f2 f3
        generalize ((((w7.setCell ⟨B + 1, 0, none⟩ (.int .i64 a)).setCell ⟨B + 1, 1, none⟩ (.int .i64 b)).setCell ⟨B + 1, 2, none⟩ (.int .i64 c)).setCell ⟨B + 1, 3, none⟩ (.int .i64 d)) = w8 at HR9 HL9 ⊢
        obtain ⟨d0, d1, d2, d3, _, _, _, _⟩ := HR9.out
        refine bodyPost_ret (v := .agg #[.int .i64 a, .int .i64 b, .int .i64 c, .int .i64 d]) ?_ rfl ⟨a, b, c, d, by first | exact lowQ_last HLQ.out | exact (lowQ_next HLQ.out).trans HNX.out, rfl, HL9.out⟩
        rw [results_cellQ rfl]
        go_simp
      · have HLQ := hid (show lastQ [a, b, c, d] = false by rw [HLST.out, decide_eq_false hle])
        have HB8 := hid (HB5.out.later H7.out)
        have HR8 := hid (HR5.out.later H7.out)
        have HX8 := hid (HX5.out.later H7.out)
        have HL8 := hid (HL5.out.trans H7.out)
        clear y0 y1 y2 y3 y4 y5 y6 y7 z0 z1 z2 z3 z4 z5 z6 z7 u0 u1 u2 u3 u4 u5 u6 u7 H6 H7 HB5 HR5 HX5 HL5
        obtain ⟨c0, c1, c2, c3, _, _, _, _⟩ := HB8.out
        obtain ⟨d0, d1, d2, d3, f0, f1, f2, f3⟩ := HR8.out
        obtain ⟨e0, e1, e2, e3, _, _, _, _⟩ := HX8.out
        go_wp2_with fail
        have HR9 := hid (HR8.out.set p q r s)
        have HL9 := hid (setQ_later HL8.out (show w.heap.size ≤ B + 1 by have := HBW.out; omega) p q r s)
        clear c0 c1 c2 c3 d0 d1 d2 d3 e0 e1 e2 e3 f0 f1 f2 f3
        generalize ((((w7.setCell ⟨B + 1, 0, none⟩ (.int .i64 p)).setCell ⟨B + 1, 1, none⟩ (.int .i64 q)).setCell ⟨B + 1, 2, none⟩ (.int .i64 r)).setCell ⟨B + 1, 3, none⟩ (.int .i64 s)) = w8 at HR9 HL9 ⊢
        obtain ⟨d0, d1, d2, d3, _, _, _, _⟩ := HR9.out
        refine bodyPost_ret (v := .agg #[.int .i64 p, .int .i64 q, .int .i64 r, .int .i64 s]) ?_ rfl ⟨p, q, r, s, by first | exact lowQ_last HLQ.out | exact (lowQ_next HLQ.out).trans HNX.out, rfl, HL9.out⟩
        rw [results_cellQ rfl]
        go_simp
  · have hw : w1.heap.size ≤ w1.heap.size := Nat.le_refl _
    have hlt := HR.out.lt
    have HX5 := hid (HM4.out.set p q r s)
    have HB5 := hid ((HB.out.later HL4.out).keep (setQ_far w4 w1.heap.size B p q r s (by omega)))
    have HR5 := hid ((HR.out.later HL4.out).keep (setQ_far w4 w1.heap.size (B + 1) p q r s (by omega)))
    have HL5 := hid (setQ_later (HL.out.trans HL4.out) (show w.heap.size ≤ w1.heap.size by have := HL.out.size; omega) p q r s)
    clear hw hlt n0 n1 n2 n3 g0 g1 g2 g3 HM4 d0 d1 d2 d3 e0 e1 e2 e3 x1 x3
    obtain ⟨X, hX⟩ : ∃ X, w1.heap.size = X := ⟨_, rfl⟩
    rw [hX] at HX5 HB5 HR5 HL5 ⊢
    generalize ((((w4.setCell ⟨X, 0, none⟩ (.int .i64 p)).setCell ⟨X, 1, none⟩ (.int .i64 q)).setCell ⟨X, 2, none⟩ (.int .i64 r)).setCell ⟨X, 3, none⟩ (.int .i64 s)) = w5 at HX5 HB5 HR5 HL5 ⊢
    clear hX
    clear c0 c1 c2 c3 f0 f1 f2 f3 HB HR HL HIX HSP H3 HL4
    obtain ⟨y0, y1, y2, y3, _, _, _, _⟩ := HX5.out
    obtain ⟨y4, y5, y6, y7, _, _, _, _⟩ := HB5.out
    have TK := hid (show (0 : Nat) = 0 from rfl)
    go_wp2_with fail
    go_region_held3 (fun w' => w'.cell? ⟨X, 0, none⟩ = some (.int .i64 p) ∧ w'.cell? ⟨X, 1, none⟩ = some (.int .i64 q) ∧ w'.cell? ⟨X, 2, none⟩ = some (.int .i64 r) ∧ w'.cell? ⟨X, 3, none⟩ = some (.int .i64 s) ∧ w'.cell? ⟨B, 0, none⟩ = some (.int .i64 a) ∧ w'.cell? ⟨B, 1, none⟩ = some (.int .i64 b) ∧ w'.cell? ⟨B, 2, none⟩ = some (.int .i64 c) ∧ w'.cell? ⟨B, 3, none⟩ = some (.int .i64 d)) (first | with_reducible exact ⟨y0, y1, y2, y3, y4, y5, y6, y7⟩ | with_reducible exact ⟨z0, z1, z2, z3, z4, z5, z6, z7⟩ | with_reducible exact ⟨u0, u1, u2, u3, u4, u5, u6, u7⟩ | go_keep) (first | (go_at_call 73; first | (have hh := TK; clear hh; first | (with_reducible refine (HS2.out w5.drew).mono ?_; rintro e w6 ⟨rfl, hL6⟩; have hL6' := (Later.drew w5).trans hL6; have z0 := hL6'.cell y0; have z1 := hL6'.cell y1; have z2 := hL6'.cell y2; have z3 := hL6'.cell y3; have z4 := hL6'.cell y4; have z5 := hL6'.cell y5; have z6 := hL6'.cell y6; have z7 := hL6'.cell y7; have H6 := hid hL6'; clear hL6 hL6' TK) | (with_reducible refine (HS1.out w5.drew).mono ?_; rintro e w6 ⟨rfl, hL6⟩; have hL6' := (Later.drew w5).trans hL6; have z0 := hL6'.cell y0; have z1 := hL6'.cell y1; have z2 := hL6'.cell y2; have z3 := hL6'.cell y3; have z4 := hL6'.cell y4; have z5 := hL6'.cell y5; have z6 := hL6'.cell y6; have z7 := hL6'.cell y7; have H6 := hid hL6'; clear hL6 hL6' TK)) | (with_reducible refine (HS2.out w6).mono ?_; rintro e w7 ⟨rfl, hL7⟩; have hL7' := H6.out.trans hL7; have u0 := hL7'.cell y0; have u1 := hL7'.cell y1; have u2 := hL7'.cell y2; have u3 := hL7'.cell y3; have u4 := hL7'.cell y4; have u5 := hL7'.cell y5; have u6 := hL7'.cell y6; have u7 := hL7'.cell y7; have H7 := hid hL7'; clear hL7 hL7') | (with_reducible refine (HS1.out w6).mono ?_; rintro e w7 ⟨rfl, hL7⟩; have hL7' := H6.out.trans hL7; have u0 := hL7'.cell y0; have u1 := hL7'.cell y1; have u2 := hL7'.cell y2; have u3 := hL7'.cell y3; have u4 := hL7'.cell y4; have u5 := hL7'.cell y5; have u6 := hL7'.cell y6; have u7 := hL7'.cell y7; have H7 := hid hL7'; clear hL7 hL7')))
    all_goals
      by_cases hle : S ≤ S2
      · have HLQ := hid (show lastQ [a, b, c, d] = true by rw [HLST.out, decide_eq_true hle])
        have HB8 := hid (HB5.out.later H7.out)
        have HR8 := hid (HR5.out.later H7.out)
        have HX8 := hid (HX5.out.later H7.out)
        have HL8 := hid (HL5.out.trans H7.out)
        clear y0 y1 y2 y3 y4 y5 y6 y7 z0 z1 z2 z3 z4 z5 z6 z7 u0 u1 u2 u3 u4 u5 u6 u7 H6 H7 HB5 HR5 HX5 HL5
        obtain ⟨c0, c1, c2, c3, _, _, _, _⟩ := HB8.out
        obtain ⟨d0, d1, d2, d3, f0, f1, f2, f3⟩ := HR8.out
        obtain ⟨e0, e1, e2, e3, _, _, _, _⟩ := HX8.out
        go_wp2_with fail
        have HR9 := hid (HR8.out.set a b c d)
        have HL9 := hid (setQ_later HL8.out (show w.heap.size ≤ B + 1 by have := HBW.out; omega) a b c d)
        clear c0 c1 c2 c3 d0 d1 d2 d3 e0 e1 e2 e3 f0 f1 f2 f3
        generalize ((((w7.setCell ⟨B + 1, 0, none⟩ (.int .i64 a)).setCell ⟨B + 1, 1, none⟩ (.int .i64 b)).setCell ⟨B + 1, 2, none⟩ (.int .i64 c)).setCell ⟨B + 1, 3, none⟩ (.int .i64 d)) = w8 at HR9 HL9 ⊢
        obtain ⟨d0, d1, d2, d3, _, _, _, _⟩ := HR9.out
        refine bodyPost_ret (v := .agg #[.int .i64 a, .int .i64 b, .int .i64 c, .int .i64 d]) ?_ rfl ⟨a, b, c, d, by first | exact lowQ_last HLQ.out | exact (lowQ_next HLQ.out).trans HNX.out, rfl, HL9.out⟩
        rw [results_cellQ rfl]
        go_simp
      · have HLQ := hid (show lastQ [a, b, c, d] = false by rw [HLST.out, decide_eq_false hle])
        have HB8 := hid (HB5.out.later H7.out)
        have HR8 := hid (HR5.out.later H7.out)
        have HX8 := hid (HX5.out.later H7.out)
        have HL8 := hid (HL5.out.trans H7.out)
        clear y0 y1 y2 y3 y4 y5 y6 y7 z0 z1 z2 z3 z4 z5 z6 z7 u0 u1 u2 u3 u4 u5 u6 u7 H6 H7 HB5 HR5 HX5 HL5
        obtain ⟨c0, c1, c2, c3, _, _, _, _⟩ := HB8.out
        obtain ⟨d0, d1, d2, d3, f0, f1, f2, f3⟩ := HR8.out
        obtain ⟨e0, e1, e2, e3, _, _, _, _⟩ := HX8.out
        go_wp2_with fail
        have HR9 := hid (HR8.out.set p q r s)
        have HL9 := hid (setQ_later HL8.out (show w.heap.size ≤ B + 1 by have := HBW.out; omega) p q r s)
        clear c0 c1 c2 c3 d0 d1 d2 d3 e0 e1 e2 e3 f0 f1 f2 f3
        generalize ((((w7.setCell ⟨B + 1, 0, none⟩ (.int .i64 p)).setCell ⟨B + 1, 1, none⟩ (.int .i64 q)).setCell ⟨B + 1, 2, none⟩ (.int .i64 r)).setCell ⟨B + 1, 3, none⟩ (.int .i64 s)) = w8 at HR9 HL9 ⊢
        obtain ⟨d0, d1, d2, d3, _, _, _, _⟩ := HR9.out
        refine bodyPost_ret (v := .agg #[.int .i64 p, .int .i64 q, .int .i64 r, .int .i64 s]) ?_ rfl ⟨p, q, r, s, by first | exact lowQ_last HLQ.out | exact (lowQ_next HLQ.out).trans HNX.out, rfl, HL9.out⟩
        rw [results_cellQ rfl]
        go_simp


/-- '==' at two quads. -/
theorem eqQ (x y z t a b c d : Int) (w : World) : (Op.equalIn 10000 80 (.agg #[.int .i64 x, .int .i64 y, .int .i64 z, .int .i64 t]) (.agg #[.int .i64 a, .int .i64 b, .int .i64 c, .int .i64 d])).run Try.prog w = .ok (x == a && (y == b && (z == c && t == d))) w := by
  obtain ⟨i0, hi, hz0, hz1, hz2⟩ := info_parts Try.infoInt
  have hc : Try.prog.cellsOf 3 = 1 := by kernel_rfl
  have u3 := Try.underlying3
  have a3 := Try.isAgg3
  have z3 := Try.sizeOf3
  rw [show (10000 : Nat) = 9999 + 1 from rfl, run_equalIn_array w 9999 _ _ Try.underlying80 hi, hc, show (9999 : Nat) = 9998 + 1 from rfl]
  simp only [List.range_succ, List.range_zero, List.nil_append, List.cons_append]
  simp only [Op.eqItems]
  go_simp
  by_cases h1 : x = a <;> by_cases h2 : y = b <;> by_cases h3 : z = c <;> by_cases h4 : t = d <;> simp [h1, h2, h3, h4]
theorem lowQ_ne {a b c d : Int} (h : QD a b c d) (hl : lastQ [a, b, c, d] = false) {p q r s : Int} (e : lowQ [a, b, c, d] = [p, q, r, s]) : (p == a && (q == b && (r == c && s == d))) = false := by
  rw [lowQ_next hl] at e
  have h2 := (nextQ_good ((apB_iff a b c d).2 h) hl).2
  rw [e, sum4, sum4] at h2
  cases hb : (p == a && (q == b && (r == c && s == d)))
  · rfl
  · simp at hb; omega
theorem lowQ_eq {a b c d : Int} (hl : lastQ [a, b, c, d] = true) {p q r s : Int} (e : lowQ [a, b, c, d] = [p, q, r, s]) : (p == a && (q == b && (r == c && s == d))) = true := by
  rw [lowQ_last hl] at e
  simp only [List.cons.injEq, and_true] at e
  obtain ⟨rfl, rfl, rfl, rfl⟩ := e
  simp
set_option maxRecDepth 20000 in
set_option maxHeartbeats 2000000 in
theorem isRootS_any (a b c d : Int) (w : World) (hq : QD a b c d) :
    Calls Try.prog 69 #[.agg #[.int .i64 a, .int .i64 b, .int .i64 c, .int .i64 d]] w fun e w' => e = .returned (.bool (lastQ [a, b, c, d])) ∧ Later w w' := by
  have HL := hid (Later.alloc w (.cells #[.int .i64 a, .int .i64 b, .int .i64 c, .int .i64 d] 80))
  have HQ := hid hq
  obtain ⟨c0, c1, c2, c3, _, _, _, _⟩ := QBox.new w a b c d
  obtain ⟨o, ho⟩ : ∃ o, lastQ [a, b, c, d] = o := ⟨_, rfl⟩
  have HO := hid ho
  rw [ho]
  clear hq ho
  have E := hid (fun x y z t w0 => eqQ x y z t a b c d w0)
  go_enter Try.func69, Try.ntmps69
  go_upto_region 1 with fail
  generalize w.alloc (.cells #[.int .i64 a, .int .i64 b, .int .i64 c, .int .i64 d] 80) = w1 at c0 c1 c2 c3 HL ⊢
  go_region_held3 (fun w' => w'.cell? ⟨w.heap.size, 0, none⟩ = some (.int .i64 a) ∧ w'.cell? ⟨w.heap.size, 1, none⟩ = some (.int .i64 b) ∧ w'.cell? ⟨w.heap.size, 2, none⟩ = some (.int .i64 c) ∧ w'.cell? ⟨w.heap.size, 3, none⟩ = some (.int .i64 d)) (first | with_reducible exact ⟨c0, c1, c2, c3⟩ | with_reducible exact ⟨d0, d1, d2, d3⟩ | go_keep) (first | (go_at_call 75; refine (lowered_any a b c d w1.drew HQ.out).mono ?_; rintro e w3 ⟨p, q, r, s, hpq, rfl, hL3⟩; have hL3' := (Later.drew w1).trans hL3; have d0 := hL3'.cell c0; have d1 := hL3'.cell c1; have d2 := hL3'.cell c2; have d3 := hL3'.cell c3; have HL3 := hid (HL.out.trans hL3'); have ee := E.out p q r s; have hv : (p == a && (q == b && (r == c && s == d))) = o := (by cases o; exact lowQ_ne HQ.out HO.out hpq; exact lowQ_eq HO.out hpq); rw [hv] at ee; clear hv hL3 hL3' hpq))
  all_goals
    go_wp2_with fail
    go_ret
    exact ⟨rfl, HL3.out⟩

def NoQ (w : World) (e : Ending) (w' : World) : Prop := e = .returned (.tuple #[.agg #[.int .i64 0, .int .i64 0, .int .i64 0, .int .i64 0], .bool false]) ∧ Later w w'
def YesQ (w : World) (a b c d : Int) (e : Ending) (w' : World) : Prop := e = .returned (.tuple #[.agg #[.int .i64 a, .int .i64 b, .int .i64 c, .int .i64 d], .bool true]) ∧ Later w w'
theorem wrapQ {z : Int} (h : -9000000000000000000 ≤ z ∧ z ≤ 9000000000000000000) : wrap64 z = z := IntWalk.wrap64_in _ (by omega)
theorem dot4 {a b c d : Int} (ha : -100000 ≤ a ∧ a ≤ 100000) (hb : -100000 ≤ b ∧ b ≤ 100000) (hc : -100000 ≤ c ∧ c ≤ 100000) (hd : -100000 ≤ d ∧ d ≤ 100000) : dotW [a, b, c, d] [a, b, c, d] = qsq [a, b, c, d] := by
  have h1 := sqQ_bd ha
  have h2 := sqQ_bd hb
  have h3 := sqQ_bd hc
  have h4 := sqQ_bd hd
  rw [qsq4]
  unfold dotW
  simp only [List.length_cons, List.length_nil, wsum, List.getD_cons_zero, List.getD_cons_succ]
  rw [wrapQ (z := a * a) (by omega), wrapQ (z := b * b) (by omega), wrapQ (z := c * c) (by omega), wrapQ (z := d * d) (by omega), wrapQ (z := 0 + a * a) (by omega), wrapQ (z := 0 + a * a + b * b) (by omega), wrapQ (z := 0 + a * a + b * b + c * c) (by omega), wrapQ (z := 0 + a * a + b * b + c * c + d * d) (by omega)]
  omega
theorem dotQ_any (v : Value) (zs : List Int) (w : World) (h4 : zs.length = 4) (hw : zs.all (within (-100000) 100000) = true) (h : Ints w v zs) :
    Calls Try.prog 74 #[v, v] w fun e w' => e = .returned (.int .i64 (qsq zs)) ∧ Later w w' := by
  refine (dot_any v v zs zs w (Nat.le_refl _) h h).mono ?_
  rintro e w' ⟨rfl, hL⟩
  obtain ⟨a, b, c, d, rfl⟩ := len4 h4
  have hb := withinQ hw
  refine ⟨?_, hL⟩
  rw [dot4 (hb a (by simp)) (hb b (by simp)) (hb c (by simp)) (hb d (by simp))]
set_option maxRecDepth 20000 in
set_option maxHeartbeats 4000000 in
theorem quadOf_far (v : Value) (zs : List Int) (w : World) (hn : zs.length ≠ 4 ∨ zs.all (within (-100000) 100000) = false) (h : Ints w v zs) :
    Calls Try.prog 68 #[v] w fun e w' => NoQ w e w' := by
  have hA := Later.alloc w (.cells #[.int .i64 0, .int .i64 0, .int .i64 0, .int .i64 0] 80)
  have HR := hid (QBox.new w 0 0 0 0)
  have H1 := hid (h.later hA)
  have HL := hid hA
  obtain ⟨p, cap, rfl, hl, _⟩ := id h
  have HN := hid hn
  clear hn
  obtain ⟨d0, d1, d2, d3, f0, f1, f2, f3⟩ := HR.out
  by_cases h4 : zs.length = 4
  · have hW : zs.all (within (-100000) 100000) = false := by rcases HN.out with h | h; exact absurd h4 h; exact h
    have HW := hid hW
    have hne : ((zs.length : Int) != 4) = false := by simp [h4]
    clear h hA h4 hW
    go_enter Try.func68, Try.ntmps68
    go_wp2_with fail
    generalize w.alloc (.cells #[.int .i64 0, .int .i64 0, .int .i64 0, .int .i64 0] 80) = w1 at *
    refine (areWithin_as _ zs 100000 _ _ (by omega) HW.out H1.out).mono ?_
    rintro e w' ⟨rfl, rfl⟩
    go_wp2_with fail
    refine bodyPost_ret (v := .tuple #[.agg #[.int .i64 0, .int .i64 0, .int .i64 0, .int .i64 0], .bool false]) ?_ rfl ⟨rfl, by first | exact HL.out | exact setQ_later HL.out (Nat.le_refl _) 0 0 0 0⟩
    rw [results_cell_tmp rfl]
    go_simp
  · have hne : ((zs.length : Int) != 4) = true := by simp; omega
    clear h hA h4
    go_enter Try.func68, Try.ntmps68
    go_wp2_with fail
    generalize w.alloc (.cells #[.int .i64 0, .int .i64 0, .int .i64 0, .int .i64 0] 80) = w1 at *
    refine bodyPost_ret (v := .tuple #[.agg #[.int .i64 0, .int .i64 0, .int .i64 0, .int .i64 0], .bool false]) ?_ rfl ⟨rfl, by first | exact HL.out | exact setQ_later HL.out (Nat.le_refl _) 0 0 0 0⟩
    rw [results_cell_tmp rfl]
    go_simp
set_option maxRecDepth 20000 in
set_option maxHeartbeats 4000000 in
theorem quadOf_at (v : Value) (a b c d : Int) (w : World) (hw : [a, b, c, d].all (within (-100000) 100000) = true) (h : Ints w v [a, b, c, d]) :
    Calls Try.prog 68 #[v] w fun e w' => (apB [a, b, c, d] = true ∧ YesQ w a b c d e w') ∨ (apB [a, b, c, d] = false ∧ NoQ w e w') := by
  have hA := Later.alloc w (.cells #[.int .i64 0, .int .i64 0, .int .i64 0, .int .i64 0] 80)
  have HR := hid (QBox.new w 0 0 0 0)
  have H1 := hid (h.later hA)
  have HL := hid hA
  obtain ⟨ad, cap, rfl, k0, k1, k2, k3⟩ := (h.later hA).four
  have hb := withinQ hw
  have HM : Hid (Md a b c d) := hid (by have h1 := hb a (by simp); have h2 := hb b (by simp); have h3 := hb c (by simp); have h4 := hb d (by simp); exact ⟨by omega, by omega, by omega, by omega, by omega, by omega, by omega, by omega⟩)
  have HW := hid hw
  obtain ⟨S, hS⟩ : ∃ S, a + b + c + d = S := ⟨_, rfl⟩
  obtain ⟨Q, hQ⟩ : ∃ Q, qsq [a, b, c, d] = Q := ⟨_, rfl⟩
  have hSb : -400000 ≤ S ∧ S ≤ 400000 := by have h1 := hb a (by simp); have h2 := hb b (by simp); have h3 := hb c (by simp); have h4 := hb d (by simp); omega
  have hQb : 0 ≤ Q ∧ Q ≤ 40000000000 := by have := qsq_bd [a, b, c, d] hb; rw [hQ] at this; simpa using this
  have hss : 0 ≤ S * S ∧ S * S ≤ 160000000000 := by
    obtain ⟨t1, t2⟩ := hSb
    refine ⟨sq_nn S, ?_⟩
    rcases Int.le_total 0 S with hz | hz
    · have := Int.mul_le_mul t2 t2 hz (by omega); omega
    · have := Int.mul_le_mul (show -S ≤ 400000 by omega) (show -S ≤ 400000 by omega) (by omega) (by omega)
      rw [Int.neg_mul_neg] at this; omega
  obtain ⟨t1, t2⟩ := hSb
  obtain ⟨t3, t4⟩ := hQb
  obtain ⟨t5, t6⟩ := hss
  have HSS := hid (fun (w0 : World) => sumS_as a b c d S w0 HM.out hS)
  have HDD := hid (fun (v : Value) (w0 : World) (h0 : Ints w0 v [a, b, c, d]) => show Calls Try.prog 74 #[v, v] w0 fun e w' => e = .returned (.int .i64 Q) ∧ Later w0 w' from hQ ▸ dotQ_any v [a, b, c, d] w0 rfl hw h0)
  have HAP := hid (show apB [a, b, c, d] = (decide (0 < S) && decide (2 * Q = S * S)) by unfold apB; rw [hw, sum4, hS, hQ]; simp)
  have ha : ∀ w, (Instr.arrayAt 80 (.slice (some ad) 4 cap)).run Try.prog w = .ok (.pointer (some ad)) w := fun w => run_arrayAt w _ _ _ _ _ _ Try.underlying80 (by omega)
  have hSZ : w.heap.size + 1 = (w.alloc (.cells #[.int .i64 0, .int .i64 0, .int .i64 0, .int .i64 0] 80)).heap.size := by simp
  have HSZ := hid hSZ
  clear hA h hw hb hS hQ hSZ
  obtain ⟨d0, d1, d2, d3, f0, f1, f2, f3⟩ := HR.out
  go_enter Try.func68, Try.ntmps68
  go_wp2_with fail
  generalize w.alloc (.cells #[.int .i64 0, .int .i64 0, .int .i64 0, .int .i64 0] 80) = w1 at *
  refine (areWithin_as _ [a, b, c, d] 100000 _ _ (by omega) HW.out H1.out).mono ?_
  rintro e w' ⟨rfl, rfl⟩
  go_wp2_with fail
  have hA2 := Later.alloc w1 (.cells #[.int .i64 a, .int .i64 b, .int .i64 c, .int .i64 d] 80)
  have HB2 := hid (QBox.new w1 a b c d)
  have HR2 := hid (HR.out.later hA2)
  have HL2 := hid (HL.out.trans hA2)
  have H2 := hid (H1.out.later hA2)
  clear hA2 d0 d1 d2 d3 f0 f1 f2 f3 k0 k1 k2 k3
  generalize w1.alloc (.cells #[.int .i64 a, .int .i64 b, .int .i64 c, .int .i64 d] 80) = w2 at HB2 HR2 HL2 H2 ⊢
  obtain ⟨C, hC⟩ : ∃ C, w1.heap.size = C := ⟨_, rfl⟩
  rw [hC] at HB2 ⊢
  clear hC
  refine (HSS.out _).mono ?_
  rintro e w3 ⟨rfl, hL3⟩
  have HB3 := hid (HB2.out.later hL3)
  have HR3 := hid (HR2.out.later hL3)
  have HL3 := hid (HL2.out.trans hL3)
  have H3 := hid (H2.out.later hL3)
  clear hL3 HB2 HR2 HL2 H2
  by_cases hp : 0 < S
  · have hp1 : decide (S ≤ 0) = false := decide_eq_false (by omega)
    go_wp2_with fail
    refine (HDD.out _ _ H3.out).mono ?_
    rintro e w4 ⟨rfl, hL4⟩
    have HB4 := hid (HB3.out.later hL4)
    have HR4 := hid (HR3.out.later hL4)
    have HL4 := hid (HL3.out.trans hL4)
    clear hL4 HB3 HR3 HL3 H3
    by_cases he : 2 * Q = S * S
    · have HY := hid (show apB [a, b, c, d] = true by rw [HAP.out, decide_eq_true hp, decide_eq_true he]; rfl)
      have hb0 : (2 * Q != S * S) = false := by simp [he]
      obtain ⟨d0, d1, d2, d3, f0, f1, f2, f3⟩ := HR4.out
      obtain ⟨c0, c1, c2, c3, _, _, _, _⟩ := HB4.out
      clear he
      go_wp2_with fail
      have HR5 := hid (HR4.out.set a b c d)
      have HL5 := hid (setQ_later HL4.out (Nat.le_refl _) a b c d)
      clear c0 c1 c2 c3 d0 d1 d2 d3 f0 f1 f2 f3
      generalize ((((w4.setCell ⟨w.heap.size, 0, none⟩ (.int .i64 a)).setCell ⟨w.heap.size, 1, none⟩ (.int .i64 b)).setCell ⟨w.heap.size, 2, none⟩ (.int .i64 c)).setCell ⟨w.heap.size, 3, none⟩ (.int .i64 d)) = w5 at HR5 HL5 ⊢
      obtain ⟨d0, d1, d2, d3, _, _, _, _⟩ := HR5.out
      refine bodyPost_ret (v := .tuple #[.agg #[.int .i64 a, .int .i64 b, .int .i64 c, .int .i64 d], .bool true]) ?_ rfl (.inl ⟨HY.out, rfl, HL5.out⟩)
      rw [results_cell_tmp rfl]
      go_simp
    · have HY := hid (show apB [a, b, c, d] = false by rw [HAP.out, decide_eq_true hp, decide_eq_false he]; rfl)
      have hb0 : (2 * Q != S * S) = true := by simp [he]
      obtain ⟨d0, d1, d2, d3, f0, f1, f2, f3⟩ := HR4.out
      clear he
      go_wp2_with fail
      refine bodyPost_ret (v := .tuple #[.agg #[.int .i64 0, .int .i64 0, .int .i64 0, .int .i64 0], .bool false]) ?_ rfl (.inr ⟨HY.out, rfl, setQ_later HL4.out (Nat.le_refl _) 0 0 0 0⟩)
      rw [results_cell_tmp rfl]
      go_simp
  · have hp1 : decide (S ≤ 0) = true := decide_eq_true (by omega)
    have HY := hid (show apB [a, b, c, d] = false by rw [HAP.out, decide_eq_false hp]; rfl)
    obtain ⟨d0, d1, d2, d3, f0, f1, f2, f3⟩ := HR3.out
    go_wp2_with fail
    refine bodyPost_ret (v := .tuple #[.agg #[.int .i64 0, .int .i64 0, .int .i64 0, .int .i64 0], .bool false]) ?_ rfl (.inr ⟨HY.out, rfl, setQ_later HL3.out (Nat.le_refl _) 0 0 0 0⟩)
    rw [results_cell_tmp rfl]
    go_simp
theorem quadOf_yes (v : Value) (a b c d : Int) (w : World) (hq : apB [a, b, c, d] = true) (h : Ints w v [a, b, c, d]) :
    Calls Try.prog 68 #[v] w fun e w' => YesQ w a b c d e w' := by
  have hw : [a, b, c, d].all (within (-100000) 100000) = true := by
    simp only [apB, Bool.and_eq_true] at hq
    exact hq.1.2
  refine (quadOf_at v a b c d w hw h).mono ?_
  rintro e w' (⟨_, hy⟩ | ⟨hn, _⟩)
  · exact hy
  · rw [hq] at hn; cases hn
theorem quadOf_no (v : Value) (zs : List Int) (w : World) (hn : apB zs = false) (h : Ints w v zs) :
    Calls Try.prog 68 #[v] w fun e w' => NoQ w e w' := by
  by_cases h4 : zs.length = 4
  · cases hw : zs.all (within (-100000) 100000)
    · exact quadOf_far v zs w (.inr hw) h
    · obtain ⟨a, b, c, d, rfl⟩ := len4 h4
      refine (quadOf_at v a b c d w hw h).mono ?_
      rintro e w' (⟨hy, _⟩ | ⟨_, hno⟩)
      · rw [hn] at hy; cases hy
      · exact hno
  · exact quadOf_far v zs w (.inl h4) h
end Go.Proofs.Ytljikcajfmnnmab
