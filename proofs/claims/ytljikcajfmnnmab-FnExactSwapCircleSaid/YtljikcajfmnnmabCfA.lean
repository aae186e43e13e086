/- Configurations as arrays (the program): configOf. -/
import Derived.Test.YtljikcajfmnnmabCiK
import Derived.Laws.ResultCell
namespace Go.Proofs.Ytljikcajfmnnmab
open Go.RowKit

def zL : List Ci4 := [c00, c00, c00, c00]
theorem zL_kA : kA zL = #[.int .i64 0, .int .i64 0, .int .i64 0, .int .i64 0, .int .i64 0, .int .i64 0, .int .i64 0, .int .i64 0, .int .i64 0, .int .i64 0, .int .i64 0, .int .i64 0, .int .i64 0, .int .i64 0, .int .i64 0, .int .i64 0] := rfl
theorem results_cell_tmpK {fn : Func} {p q : Tmp} {ty : TypeId} (h : fn.results = #[.cell p ty, .tmp q]) (tmps : Array Value) (P : Program) (w : World) (ad : Addr) (A b : Value) (hp : tmps.getD p undef = .pointer (some ad)) (hq : tmps.getD q undef = b)
    (hv : (loadVar ty ad).run P w = .ok A w) : (results fn tmps).run P w = .ok (.tuple #[A, b]) w := by
  rw [results_cell_tmp h, hp]
  simp [asAddr, hv, hq]
theorem KBlk.var {w : World} {B : Nat} {L : List Ci4} (h : KBlk w B L) (hl : L.length = 4) : Sem.run Try.prog (loadVar 60 ⟨B, 0, none⟩) w = .ok (.agg (kA L)) w := by
  unfold loadVar
  simp [Sem.run_bind, Try.isAgg60, Try.sizeOf60, h.load hl]
theorem Cis.loadK {w : World} {g n cap : Nat} {L : List Ci4} (h : Cis w (.slice (some ⟨g, 0, none⟩) n cap) L) (hl : L.length = 4) : Sem.run Try.prog (loadCells ⟨g, 0, none⟩ 16) w = .ok (kA L) w := by
  have := run_loadCells_list (P := Try.prog) w ⟨g, 0, none⟩ (ciCells L) (fun j v hj => by
    have hj16 : j < 16 := by
      have := (List.getElem?_eq_some_iff.1 hj).1
      rw [ciCells_len, hl] at this
      omega
    obtain ⟨g', e, c0, c1, c2, c3⟩ := h.at (j / 4) (by omega)
    simp only [Option.some.injEq, Addr.mk.injEq, and_true] at e
    subst e
    have ha := ciCells_at L (j / 4) (by omega)
    rw [addr_add0, ← hj]
    have h4 : j % 4 = 0 ∨ j % 4 = 1 ∨ j % 4 = 2 ∨ j % 4 = 3 := by omega
    rcases h4 with e | e | e | e
    · have e2 : j / 4 * 4 = j := by omega
      rw [e2] at c0 ha; rw [c0]; exact ha.1.symm
    · have e2 : j / 4 * 4 + 1 = j := by omega
      rw [e2] at c1 ha; rw [c1]; exact ha.2.1.symm
    · have e2 : j / 4 * 4 + 2 = j := by omega
      rw [e2] at c2 ha; rw [c2]; exact ha.2.2.1.symm
    · have e2 : j / 4 * 4 + 3 = j := by omega
      rw [e2] at c3 ha; rw [c3]; exact ha.2.2.2.symm)
  rw [ciCells_len, hl] at this
  exact this
set_option maxRecDepth 20000 in
set_option maxHeartbeats 2000000 in
theorem configOf_no (v : Value) (L : List Ci4) (w : World) (h : Cis w v L) (hc : confB L = false) :
    Calls Try.prog 45 #[v] w fun e w' => e = .returned (.tuple #[.agg (kA zL), .bool false]) ∧ Later w w' := by
  obtain ⟨a, cap, rfl, _⟩ := id h
  have HL := hid (Later.alloc w (.cells (kA zL) 60))
  have HB := hid (KBlk.new w zL)
  have H := hid (h.later HL.out)
  have HI := hid (fun w0 (h0 : Cis w0 (.slice a L.length cap) L) => isConfigP_any _ L w0 h0)
  unfold BoolAns at HI
  have hne : (confAns L).getD false = false := by unfold confAns; split <;> simp [hc]
  rw [hne] at HI
  obtain ⟨ob, hob⟩ : ∃ ob, (confAns L).isSome = ob := ⟨_, rfl⟩
  rw [hob] at HI
  rw [zL_kA] at HL HB H
  clear h hob hne hc
  go_enter Try.func45, Try.ntmps45
  go_wp2_with fail
  generalize w.alloc (.cells #[.int .i64 0, .int .i64 0, .int .i64 0, .int .i64 0, .int .i64 0, .int .i64 0, .int .i64 0, .int .i64 0, .int .i64 0, .int .i64 0, .int .i64 0, .int .i64 0, .int .i64 0, .int .i64 0, .int .i64 0, .int .i64 0] 60) = w1 at HL HB H ⊢
  refine (HI.out _ H.out).mono ?_
  rintro e w2 ⟨rfl, hL⟩
  have HL2 := hid (HL.out.trans hL)
  have HB2 := hid (HB.out.later hL)
  have HLz := hid (setRow_later HL2.out (B := w.heap.size) (Nat.le_refl _) (kA zL))
  have HBz := hid (HB2.out.set zL)
  clear hL
  go_wp2_with (refine wpList_storeK _ (w2.setRow w.heap.size (kA zL)) (by rfl) 60 _ _ (by rfl) ⟨w.heap.size, 0, none⟩ (by rfl) (.agg (kA zL)) (by rfl) (HB2.out.store rfl rfl) (fun u => ?_))
  have hv := HBz.out.var rfl
  refine bodyPost_ret (v := .tuple #[.agg (kA zL), .bool false]) ?_ rfl ⟨rfl, HLz.out⟩
  exact results_cell_tmpK rfl _ _ _ _ _ _ rfl rfl hv
set_option maxRecDepth 20000 in
set_option maxHeartbeats 2000000 in
theorem configOf_yes (v : Value) (L : List Ci4) (w : World) (h : Cis w v L) (hc : confB L = true) :
    Calls Try.prog 45 #[v] w fun e w' => e = .returned (.tuple #[.agg (kA L), .bool true]) ∧ Later w w' := by
  obtain ⟨a, cap, rfl, _⟩ := id h
  have hl := fourB_len (confB_four hc)
  obtain ⟨g, rfl, _⟩ := h.at 0 (by omega)
  have HL := hid (Later.alloc w (.cells (kA zL) 60))
  have HB := hid (KBlk.new w zL)
  have H := hid (h.later HL.out)
  have HI := hid (fun w0 (h0 : Cis w0 (.slice (some ⟨g, 0, none⟩) L.length cap) L) => isConfigP_any _ L w0 h0)
  unfold BoolAns at HI
  have hne : confAns L = some true := by unfold confAns; rw [if_pos (confB_four hc), hc]
  rw [hne] at HI
  have harr : ∀ w0, (Instr.arrayAt 60 (.slice (some ⟨g, 0, none⟩) L.length cap)).run Try.prog w0 = .ok (.pointer (some ⟨g, 0, none⟩)) w0 := fun w0 => by
    rw [hl]
    simp [Instr.arrayAt, run_underlying Try.underlying60]
  have HN := hid hl
  rw [zL_kA] at HL HB H
  clear h hne hc hl
  go_enter Try.func45, Try.ntmps45
  go_wp2_with fail
  generalize w.alloc (.cells #[.int .i64 0, .int .i64 0, .int .i64 0, .int .i64 0, .int .i64 0, .int .i64 0, .int .i64 0, .int .i64 0, .int .i64 0, .int .i64 0, .int .i64 0, .int .i64 0, .int .i64 0, .int .i64 0, .int .i64 0, .int .i64 0] 60) = w1 at HL HB H ⊢
  refine (HI.out _ H.out).mono ?_
  rintro e w2 ⟨rfl, hL⟩
  have HL2 := hid (HL.out.trans hL)
  have HB2 := hid (HB.out.later hL)
  have H2 := hid (H.out.later hL)
  have HLz := hid (setRow_later HL2.out (B := w.heap.size) (Nat.le_refl _) (kA L))
  have HBz := hid (HB2.out.set L)
  clear hL
  go_wp2_with (first | (refine wpList_loadK _ (by rfl) 60 _ (by rfl) ⟨g, 0, none⟩ (by rfl) Try.isAgg60 16 Try.sizeOf60 (kA L) (by exact H2.out.loadK HN.out) ?_) | (refine wpList_storeK _ (w2.setRow w.heap.size (kA L)) (by rfl) 60 _ _ (by rfl) ⟨w.heap.size, 0, none⟩ (by rfl) (.agg (kA L)) (by rfl) (HB2.out.store rfl HN.out) (fun u => ?_)))
  have hv := HBz.out.var HN.out
  refine bodyPost_ret (v := .tuple #[.agg (kA L), .bool true]) ?_ rfl ⟨rfl, HLz.out⟩
  exact results_cell_tmpK rfl _ _ _ _ _ _ rfl rfl hv
end Go.Proofs.Ytljikcajfmnnmab
