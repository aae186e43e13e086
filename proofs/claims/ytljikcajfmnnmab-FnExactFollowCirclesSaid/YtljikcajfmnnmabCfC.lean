/- A swap of a configuration (the program). -/
import Derived.Test.YtljikcajfmnnmabCfB
import Derived.Test.YtljikcajfmnnmabCiM
namespace Go.Proofs.Ytljikcajfmnnmab
open Go.RowKit

theorem results_cellK {fn : Func} {p : Tmp} {ty : TypeId} (h : fn.results = #[.cell p ty]) (tmps : Array Value) (P : Program) (w : World) (ad : Addr) (A : Value) (hp : tmps.getD p undef = .pointer (some ad))
    (hv : (loadVar ty ad).run P w = .ok A w) : (results fn tmps).run P w = .ok A w := by
  rw [results_cellC h, hp]
  simp [asAddr, hv]
def imgK (L : List Ci4) (i : Nat) : Nat → Ci4
  | 0 => plusOf c00 (L.getD i c00) (-3)
  | k + 1 => plusOf (imgK L i k) (L.getD k c00) 2
theorem imgK_four (L : List Ci4) (i : Nat) : imgK L i 4 = ciNew L i := by
  unfold ciNew
  simp only [imgK, plusOf, c00]
  refine Prod.ext ?_ (Prod.ext ?_ (Prod.ext ?_ ?_)) <;> simp only <;> omega
def BdL (N : Int) (L : List Ci4) : Prop := ∀ i, i < 4 → Bd N (L.getD i c00)
theorem imgK_bd {L : List Ci4} {i : Nat} (hi : i < 4) (h : BdL 1000000000000000 L) : ∀ k : Nat, k ≤ 4 → Bd ((3 + 2 * (k : Int)) * 1000000000000000) (imgK L i k) := by
  intro k
  induction k with
  | zero =>
    intro _
    have := h i hi
    unfold Bd at *
    simp only [imgK, plusOf, show c00.1 = 0 from rfl, show c00.2.1 = 0 from rfl, show c00.2.2.1 = 0 from rfl, show c00.2.2.2 = 0 from rfl]
    omega
  | succ k ih =>
    intro hk
    have h1 := ih (by omega)
    have h2 := h k (by omega)
    unfold Bd at *
    simp only [imgK, plusOf]
    omega
theorem KBlk.at {w : World} {B : Nat} {L : List Ci4} (h : KBlk w B L) (hl : L.length = 4) (i : Nat) (hi : i < 4) :
    (w.cell? ⟨B, i * 4, none⟩ = some (.int .i64 (L.getD i c00).1) ∧ w.cell? ⟨B, i * 4 + 1, none⟩ = some (.int .i64 (L.getD i c00).2.1) ∧ w.cell? ⟨B, i * 4 + 2, none⟩ = some (.int .i64 (L.getD i c00).2.2.1) ∧ w.cell? ⟨B, i * 4 + 3, none⟩ = some (.int .i64 (L.getD i c00).2.2.2)) ∧
    w.frozen? ⟨B, i * 4, none⟩ = false ∧ w.frozen? ⟨B, i * 4 + 1, none⟩ = false ∧ w.frozen? ⟨B, i * 4 + 2, none⟩ = false ∧ w.frozen? ⟨B, i * 4 + 3, none⟩ = false := by
  have ha := ciCells_at L i (by omega)
  exact ⟨⟨(h.cell _).trans ha.1, (h.cell _).trans ha.2.1, (h.cell _).trans ha.2.2.1, (h.cell _).trans ha.2.2.2⟩, h.frozen _, h.frozen _, h.frozen _, h.frozen _⟩
theorem KBlk.far {w w' : World} {B : Nat} {L : List Ci4} (h : KBlk w B L) (k : w'.heap[B]? = w.heap[B]?) : KBlk w' B L := k.trans h
theorem KBlk.one {w : World} {B : Nat} {L : List Ci4} (h : KBlk w B L) (i : Nat) (hi : i < L.length) (p q r s : Int) :
    KBlk ((((w.setCell ⟨B, i * 4, none⟩ (.int .i64 p)).setCell ⟨B, i * 4 + 1, none⟩ (.int .i64 q)).setCell ⟨B, i * 4 + 2, none⟩ (.int .i64 r)).setCell ⟨B, i * 4 + 3, none⟩ (.int .i64 s)) B (L.set i (p, q, r, s)) := by
  have h1 := heap_setCell_same w B (i * 4) (kA L) 60 (.int .i64 p) h
  have h2 := heap_setCell_same _ B (i * 4 + 1) _ 60 (.int .i64 q) h1
  have h3 := heap_setCell_same _ B (i * 4 + 2) _ 60 (.int .i64 r) h2
  have h4 := heap_setCell_same _ B (i * 4 + 3) _ 60 (.int .i64 s) h3
  unfold KBlk
  rw [h4]
  refine congrArg (fun c => some (Obj.cells c 60 (0, 0))) ?_
  apply Array.ext'
  rw [Array.toList_setIfInBounds, Array.toList_setIfInBounds, Array.toList_setIfInBounds, Array.toList_setIfInBounds]
  exact ciCells_set L i hi (p, q, r, s)
/-- a box of a circle that may be written -/
def FBox (w : World) (B : Nat) (t : Ci4) : Prop := CBox w B t.1 t.2.1 t.2.2.1 t.2.2.2 ∧ ∀ j, w.frozen? ⟨B, j, none⟩ = false
theorem FBox.new (w : World) (a b x y : Int) (T : TypeId) : FBox (w.alloc (.cells #[.int .i64 a, .int .i64 b, .int .i64 x, .int .i64 y] T)) w.heap.size (a, b, x, y) := ⟨CBox.new w a b x y T, fun j => by simp [go_sem]⟩
theorem FBox.keep {w w' : World} {B : Nat} {t : Ci4} (h : FBox w B t) (k : w'.heap[B]? = w.heap[B]?) : FBox w' B t :=
  ⟨⟨cell_keep h.1.1 k, cell_keep h.1.2.1 k, cell_keep h.1.2.2.1 k, cell_keep h.1.2.2.2 k⟩, fun j => (World.frozen?_of_block k).trans (h.2 j)⟩
theorem FBox.later {w w' : World} {B : Nat} {t : Ci4} (h : FBox w B t) (k : Later w w') : FBox w' B t := h.keep (k.block B (World.block_lt_of_cell? w ⟨B, 0, none⟩ h.1.1))
theorem FBox.set {w : World} {B : Nat} {t : Ci4} (h : FBox w B t) (p q r s : Int) :
    FBox ((((w.setCell ⟨B, 0, none⟩ (.int .i64 p)).setCell ⟨B, 1, none⟩ (.int .i64 q)).setCell ⟨B, 2, none⟩ (.int .i64 r)).setCell ⟨B, 3, none⟩ (.int .i64 s)) B (p, q, r, s) :=
  ⟨h.1.set p q r s, fun j => by simp only [World.frozen?_setCell]; exact h.2 j⟩

set_option maxRecDepth 20000 in
set_option maxHeartbeats 4000000 in
theorem swappedK_any (L : List Ci4) (i : Nat) (w : World) (hi : i < 4) (hl : L.length = 4) (hb : BdL 1000000000000000 L) :
    Calls Try.prog 51 #[.agg (kA L), .int .i64 i] w fun e w' => e = .returned (.agg (kA (ciSwL L i))) ∧ Later w w' := by
  have HL := hid ((Later.alloc w (.cells (kA L) 60)).trans (Later.alloc _ (.cells (kA zL) 60)))
  have HB := hid ((KBlk.new w L).later (Later.alloc _ (.cells (kA zL) 60)))
  have HZ : Hid (KBlk ((w.alloc (.cells (kA L) 60)).alloc (.cells (kA zL) 60)) (w.heap.size + 1) zL) := hid (by have := KBlk.new (w.alloc (.cells (kA L) 60)) zL; simpa using this)
  have HN := hid hl
  have HBD := hid hb
  have HIM := hid (imgK_bd hi hb)
  have hi4 : (i : Int) < 4 := by omega
  have HI := hid hi
  rw [zL_kA] at HL HB HZ
  have HPL := hid (fun k (hk : k ≤ 4) (j : Nat) (hj : j < 4) (t : Int) (ht : t = 2) w0 => show Calls Try.prog 63 #[.agg #[.int .i64 (imgK L i k).1, .int .i64 (imgK L i k).2.1, .int .i64 (imgK L i k).2.2.1, .int .i64 (imgK L i k).2.2.2], .agg #[.int .i64 (L.getD j c00).1, .int .i64 (L.getD j c00).2.1, .int .i64 (L.getD j c00).2.2.1, .int .i64 (L.getD j c00).2.2.2], .int .i64 2] w0 fun e w' => CiRes w0 (plusOf (imgK L i k) (L.getD j c00) 2) e w' from by
    have h1 := imgK_bd hi hb k hk
    have h2 := hb j hj
    unfold Bd at h1 h2
    exact plus_any _ _ _ _ _ _ _ _ 2 w0 (by unfold Lo; omega) (by unfold Lo; omega) (by unfold Lo; omega) (by unfold Lo; omega) (by unfold Hi; omega) (by unfold Hi; omega) (by unfold Hi; omega) (by unfold Hi; omega))
  have HP0 := hid (fun w0 => show Calls Try.prog 63 #[.agg #[.int .i64 0, .int .i64 0, .int .i64 0, .int .i64 0], .agg #[.int .i64 (L.getD i c00).1, .int .i64 (L.getD i c00).2.1, .int .i64 (L.getD i c00).2.2.1, .int .i64 (L.getD i c00).2.2.2], .int .i64 (-3)] w0 fun e w' => CiRes w0 (imgK L i 0) e w' from by
    have h2 := hb i hi
    unfold Bd at h2
    exact plus_any 0 0 0 0 _ _ _ _ (-3) w0 (by unfold Lo; omega) (by unfold Lo; omega) (by unfold Lo; omega) (by unfold Lo; omega) (by unfold Hi; omega) (by unfold Hi; omega) (by unfold Hi; omega) (by unfold Hi; omega))
  clear hl hb hi
  have HAT := hid (HB.out.at HN.out i HI.out)
  have HST := hid (fun (W : World) (h : KBlk W w.heap.size L) => h.at HN.out i HI.out)
  obtain ⟨t, ht⟩ : ∃ t, L.getD i c00 = t := ⟨_, rfl⟩
  rw [ht] at HP0 HAT HST
  obtain ⟨p, q, r, s⟩ := t
  obtain ⟨m, hm⟩ : ∃ m, imgK L i 0 = m := ⟨_, rfl⟩
  have HM0 := hid hm
  rw [hm] at HP0
  obtain ⟨m0, m1, m2, m3⟩ := m
  simp only at HP0 HAT HST
  unfold CiRes at HP0
  obtain ⟨⟨c0, c1, c2, c3⟩, _⟩ := HAT.out
  clear ht hm HAT
  go_enter Try.func51, Try.ntmps51
  go_wp2_with fail
  generalize (w.alloc (.cells (kA L) 60)).alloc (.cells #[.int .i64 0, .int .i64 0, .int .i64 0, .int .i64 0, .int .i64 0, .int .i64 0, .int .i64 0, .int .i64 0, .int .i64 0, .int .i64 0, .int .i64 0, .int .i64 0, .int .i64 0, .int .i64 0, .int .i64 0, .int .i64 0] 60) = w1 at HL HB HZ c0 c1 c2 c3 ⊢
  refine (HP0.out _).mono ?_
  rintro e w2 ⟨rfl, hL2⟩
  have hA := Later.alloc w2 (.cells #[.int .i64 m0, .int .i64 m1, .int .i64 m2, .int .i64 m3] 50)
  have HL3 := hid ((HL.out.trans hL2).trans hA)
  have HB3 := hid ((HB.out.later hL2).later hA)
  have HZ3 := hid ((HZ.out.later hL2).later hA)
  have HF3 := hid (FBox.new w2 m0 m1 m2 m3 50)
  have HS3 := hid (show w.heap.size + 1 < w2.heap.size by have := (HZ.out.later hL2).lt; exact this)
  obtain ⟨B2, hB2⟩ : ∃ B, w2.heap.size = B := ⟨_, rfl⟩
  clear hL2 hA c0 c1 c2 c3 HL HB HZ HP0
  go_wp2_with (refine wpList_loadK _ (by rfl) 60 _ (by rfl) ⟨w.heap.size, 0, none⟩ (by rfl) Try.isAgg60 16 Try.sizeOf60 (kA L) (by exact HB3.out.load HN.out) ?_)
  generalize w2.alloc (.cells #[.int .i64 m0, .int .i64 m1, .int .i64 m2, .int .i64 m3] 50) = w3 at HL3 HB3 HZ3 HF3 ⊢
  rw [hB2] at HF3 HS3
  clear hB2
  go_loopw [14] (fun j wr => ∃ k : Nat, k ≤ 4 ∧ j = .int .i64 k ∧ FBox wr B2 (imgK L i k) ∧ KBlk wr w.heap.size L ∧ KBlk wr (w.heap.size + 1) zL ∧ Later w wr) (fun j _ => 4 - (intOf j).toNat)
  case atStart => exact ⟨0, by omega, rfl, by rw [HM0.out]; exact HF3.out, HB3.out, HZ3.out, HL3.out⟩
  case round =>
    clear HF3 HB3 HZ3 HL3
    obtain ⟨k, hk, rfl, hF, hB, hZ, hL⟩ := hrel
    have HF := hid hF
    have HB := hid hB
    have HZ := hid hZ
    have HL := hid hL
    by_cases hlt : k < 4
    · have hkI : (k : Int) < 4 := by omega
      have hix := fun w0 => indexK L HN.out k hlt w0
      have HPk := hid (fun w0 => HPL.out k hk k hlt 2 rfl w0)
      have HSk := hid (show imgK L i (k + 1) = plusOf (imgK L i k) (L.getD k c00) 2 from rfl)
      obtain ⟨u, hu⟩ : ∃ u, L.getD k c00 = u := ⟨_, rfl⟩
      rw [hu] at hix HPk HSk
      obtain ⟨m, hm⟩ : ∃ m, imgK L i k = m := ⟨_, rfl⟩
      rw [hm] at HPk HF HSk
      obtain ⟨n, hn⟩ : ∃ n, plusOf m u 2 = n := ⟨_, rfl⟩
      rw [hn] at HPk HSk
      obtain ⟨p2, q2, r2, s2⟩ := u
      obtain ⟨m0, m1, m2, m3⟩ := m
      obtain ⟨n0, n1, n2, n3⟩ := n
      unfold CiRes at HPk
      simp only at hix HPk
      have hA := Later.alloc wr (.cells #[.int .i64 p2, .int .i64 q2, .int .i64 r2, .int .i64 s2] 50)
      have HF4 := hid (HF.out.later hA)
      have HB4 := hid (HB.out.later hA)
      have HZ4 := hid (HZ.out.later hA)
      have HL4 := hid (HL.out.trans hA)
      have HC4 := hid (CBox.new wr p2 q2 r2 s2 50)
      obtain ⟨⟨b0, b1, b2, b3⟩, _⟩ := HF4.out
      clear hu hm hn hF hB hZ hL hA HF HB HZ HL
      go_wp2_with fail
      generalize wr.alloc (.cells #[.int .i64 p2, .int .i64 q2, .int .i64 r2, .int .i64 s2] 50) = w4 at HF4 HB4 HZ4 HL4 HC4 b0 b1 b2 b3 ⊢
      refine (HPk.out _).mono ?_
      rintro e w5 ⟨rfl, hL5⟩
      have HF5 := hid (HF4.out.later hL5)
      have HB5 := hid (HB4.out.later hL5)
      have HZ5 := hid (HZ4.out.later hL5)
      have HL5 := hid (HL4.out.trans hL5)
      obtain ⟨⟨d0, d1, d2, d3⟩, hf⟩ := HF5.out
      have f0 := hf 0
      have f1 := hf 1
      have f2 := hf 2
      have f3 := hf 3
      have hne0 : w.heap.size ≠ B2 := by have := HS3.out; omega
      have hne1 : w.heap.size + 1 ≠ B2 := by have := HS3.out; omega
      have HF6 := hid (HF5.out.set n0 n1 n2 n3)
      have HB6 := hid (HB5.out.far (set4_far w5 B2 0 w.heap.size (.int .i64 n0) (.int .i64 n1) (.int .i64 n2) (.int .i64 n3) hne0))
      have HZ6 := hid (HZ5.out.far (set4_far w5 B2 0 (w.heap.size + 1) (.int .i64 n0) (.int .i64 n1) (.int .i64 n2) (.int .i64 n3) hne1))
      have HL6 := hid (set4_later HL5.out (show w.heap.size ≤ B2 by have := HS3.out; omega) 0 (.int .i64 n0) (.int .i64 n1) (.int .i64 n2) (.int .i64 n3))
      clear hL5 hf b0 b1 b2 b3 hne0 hne1
      go_wp2_with fail
      go_roundw
      case rel => exact ⟨k + 1, hlt, by go_num, by rw [HSk.out]; exact HF6.out, HB6.out, HZ6.out, HL6.out⟩
      case measure => simp [intOf]; omega
    · obtain rfl : k = 4 := by omega
      have HE := hid (show imgK L i 4 = ciNew L i from imgK_four L i)
      obtain ⟨m, hm⟩ : ∃ m, imgK L i 4 = m := ⟨_, rfl⟩
      rw [hm] at HF HE
      obtain ⟨m0, m1, m2, m3⟩ := m
      obtain ⟨⟨b0, b1, b2, b3⟩, _⟩ := HF.out
      obtain ⟨⟨c0, c1, c2, c3⟩, g0, g1, g2, g3⟩ := HST.out _ HB.out
      have hne1 : w.heap.size + 1 ≠ w.heap.size := by omega
      have HB6 := hid (HB.out.one i (by have := HN.out; have := HI.out; omega) m0 m1 m2 m3)
      have HZ6 := hid (HZ.out.far (set4_far wr w.heap.size (i * 4) (w.heap.size + 1) (.int .i64 m0) (.int .i64 m1) (.int .i64 m2) (.int .i64 m3) hne1))
      have HL6 := hid (set4_later HL.out (Nat.le_refl w.heap.size) (i * 4) (.int .i64 m0) (.int .i64 m1) (.int .i64 m2) (.int .i64 m3))
      have HSW := hid (show L.set i (m0, m1, m2, m3) = ciSwL L i by unfold ciSwL; rw [← HE.out])
      rw [HSW.out] at HB6
      have HN6 := hid (swL_len4 L i HN.out)
      have HZ7 := hid (HZ6.out.set (ciSwL L i))
      have HL7 := hid (setRow_later HL6.out (show w.heap.size ≤ w.heap.size + 1 by omega) (kA (ciSwL L i)))
      clear hm hF hB hZ hL hne1
      go_wp2_with (first | (refine wpList_loadK _ (by rfl) 60 _ (by rfl) ⟨w.heap.size, 0, none⟩ (by rfl) Try.isAgg60 16 Try.sizeOf60 (kA (ciSwL L i)) (by exact HB6.out.load HN6.out) ?_) | (refine wpList_storeK _ (World.setRow _ (w.heap.size + 1) (kA (ciSwL L i))) (by rfl) 60 _ _ (by rfl) ⟨w.heap.size + 1, 0, none⟩ (by rfl) (.agg (kA (ciSwL L i))) (by rfl) (by exact HZ6.out.store rfl HN6.out) (fun u => ?_)))
      have hv := HZ7.out.var HN6.out
      refine bodyPost_ret (v := .agg (kA (ciSwL L i))) ?_ rfl ⟨rfl, HL7.out⟩
      exact results_cellK rfl _ _ _ _ _ rfl hv
end Go.Proofs.Ytljikcajfmnnmab
