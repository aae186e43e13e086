/- CiK, CfA, CfB, CfC: in one text. -/
import Derived.Test.YtoaopmafokoaoaaCiDJ
import Derived.Laws.CopyRow
import Derived.Laws.ResultCell
import Derived.Test.YtoaopmafokoaoaaCiM
namespace Go.Proofs.Ytoaopmafokoaoaa
open Go.RowKit


def kA (L : List Ci4) : Array Value := (ciCells L).toArray
theorem kA_size {L : List Ci4} (h : L.length = 4) : (kA L).size = 16 := by unfold kA; simp [ciCells_len, h]
/-- A block that holds four circles. -/
def KBlk (w : World) (B : Nat) (L : List Ci4) : Prop := w.heap[B]? = some (.cells (kA L) 106 (0, 0))
theorem KBlk.new (w : World) (L : List Ci4) : KBlk (w.alloc (.cells (kA L) 106)) w.heap.size L := heap_alloc_new w _
theorem KBlk.lt {w : World} {B : Nat} {L : List Ci4} (h : KBlk w B L) : B < w.heap.size := (Array.getElem?_eq_some_iff.1 h).1
theorem KBlk.later {w w' : World} {B : Nat} {L : List Ci4} (h : KBlk w B L) (k : Later w w') : KBlk w' B L := (k.block B h.lt).trans h
theorem KBlk.cell {w : World} {B : Nat} {L : List Ci4} (h : KBlk w B L) (i : Nat) : w.cell? ⟨B, i, none⟩ = (ciCells L)[i]? := by
  have := cell_of_row w B i (kA L) 106 (0, 0) h
  rw [this]; simp [kA]
theorem KBlk.frozen {w : World} {B : Nat} {L : List Ci4} (h : KBlk w B L) (i : Nat) : w.frozen? ⟨B, i, none⟩ = false := frozen_of_row w B i (kA L) 106 h
theorem one_ci (L : List Ci4) : ∀ v ∈ ciCells L, v.oneCell' = true := by
  intro v hv
  unfold ciCells at hv
  rw [List.mem_flatMap] at hv
  obtain ⟨t, _, ht⟩ := hv
  simp [ciVs] at ht
  rcases ht with rfl | rfl | rfl | rfl <;> rfl
theorem KBlk.load {w : World} {B : Nat} {L : List Ci4} (h : KBlk w B L) (hl : L.length = 4) : Sem.run Try.prog (loadCells ⟨B, 0, none⟩ 16) w = .ok (kA L) w := by
  have := run_loadCells_list (P := Try.prog) w ⟨B, 0, none⟩ (ciCells L) (fun j v hj => by rw [addr_add0, h.cell j]; exact hj)
  rw [ciCells_len, hl] at this
  exact this
theorem KBlk.store {w : World} {B : Nat} {L L' : List Ci4} (h : KBlk w B L) (hl : L.length = 4) (hl' : L'.length = 4) : Sem.run Try.prog (storeVar 106 ⟨B, 0, none⟩ (.agg (kA L'))) w = .ok () (w.setRow B (kA L')) := by
  have h1 := run_storeCells_at Try.prog B 0 106 (ciCells L') 0 (kA L) w h (by rw [kA_size hl, ciCells_len]; omega) (one_ci L')
  have e : ((kA L).toList.take (0 + 0) ++ ciCells L' ++ (kA L).toList.drop (0 + 0 + (ciCells L').length)).toArray = kA L' := by
    rw [List.drop_of_length_le (by rw [Array.length_toList, kA_size hl, ciCells_len]; omega)]
    simp [kA]
  rw [e] at h1
  unfold storeVar
  have hsz : (Value.agg (kA L')).cells.size = 16 := kA_size hl'
  simp only [Sem.run_bind, Try.sizeOf106, Result.andThen_ok, hsz]
  simpa [Value.cells, kA] using h1
theorem KBlk.set {w : World} {B : Nat} {L : List Ci4} (h : KBlk w B L) (L' : List Ci4) : KBlk (w.setRow B (kA L')) B L' := setRow_heap w B (kA L) (kA L') 106 (0, 0) h
theorem setRow_far (w : World) (B b : Nat) (c : Array Value) (h : b ≠ B) : (w.setRow B c).heap[b]? = w.heap[b]? := setRow_other w B b c h
theorem setRow_later {w0 w : World} {B : Nat} (h : Later w0 w) (hB : w0.heap.size ≤ B) (c : Array Value) : Later w0 (w.setRow B c) :=
  ⟨h.os, h.tape, h.output, by simpa [World.setRow] using h.size, fun k hk => (setRow_other w B k c (by omega)).trans (h.block k hk)⟩
theorem wpList_loadK {P : Program} (w : World) {ops : Array Oper} {rest : List Oper} {o : Oper} {a : Act} {Q : Exit → Act → World → Prop} (hg : o.guard = none) (t : TypeId) (x : Operand) (hop : o.op = Op.load t x)
    (ad : Addr) (hx : a.eval x = .pointer (some ad)) (hagg : ∀ w, (isAgg t).run P w = .ok true w) (n : Nat) (hsz : ∀ w, (sizeOf t).run P w = .ok n w) (A : Array Value) (hld : Sem.run P (loadCells ad n) w = .ok A w)
    (h : wpList P ops Q rest (a.put o.dst (.agg A)) w) : wpList P ops Q (o :: rest) a w := by
  refine wpList_plain hg fun K hK' => ?_
  unfold Oper.wp
  simp [execOp, hop, hx, Instr.loadAt, Instr.sureAddr, loadVar, hagg, hsz, hld]
  exact hK' _ _ h
theorem wpList_storeK {P : Program} (w w1 : World) {ops : Array Oper} {rest : List Oper} {o : Oper} {a : Act} {Q : Exit → Act → World → Prop} (hg : o.guard = none) (t : TypeId) (x y : Operand) (hop : o.op = Op.store t x y)
    (ad : Addr) (hx : a.eval x = .pointer (some ad)) (v : Value) (hy : a.eval y = v) (hst : Sem.run P (storeVar t ad v) w = .ok () w1)
    (h : ∀ u, wpList P ops Q rest (a.put o.dst u) w1) : wpList P ops Q (o :: rest) a w := by
  refine wpList_plain hg fun K hK' => ?_
  unfold Oper.wp
  simp [execOp, hop, hx, hy, Instr.storeAt, Instr.sureAddr, hst]
  exact hK' _ _ (h _)


def zL : List Ci4 := [c00, c00, c00, c00]
theorem zL_kA : kA zL = #[.int .i64 0, .int .i64 0, .int .i64 0, .int .i64 0, .int .i64 0, .int .i64 0, .int .i64 0, .int .i64 0, .int .i64 0, .int .i64 0, .int .i64 0, .int .i64 0, .int .i64 0, .int .i64 0, .int .i64 0, .int .i64 0] := rfl
theorem results_cell_tmpK {fn : Func} {p q : Tmp} {ty : TypeId} (h : fn.results = #[.cell p ty, .tmp q]) (tmps : Array Value) (P : Program) (w : World) (ad : Addr) (A b : Value) (hp : tmps.getD p undef = .pointer (some ad)) (hq : tmps.getD q undef = b)
    (hv : (loadVar ty ad).run P w = .ok A w) : (results fn tmps).run P w = .ok (.tuple #[A, b]) w := by
  rw [results_cell_tmp h, hp]
  simp [asAddr, hv, hq]
theorem KBlk.var {w : World} {B : Nat} {L : List Ci4} (h : KBlk w B L) (hl : L.length = 4) : Sem.run Try.prog (loadVar 106 ⟨B, 0, none⟩) w = .ok (.agg (kA L)) w := by
  unfold loadVar
  simp [Sem.run_bind, Try.isAgg106, Try.sizeOf106, h.load hl]
theorem Cis.loadK {w : World} {g n cap : Nat} {L : List Ci4} (h : Cis w (.slice (some ⟨g, 0, none⟩) n cap) L) (hl : L.length = 4) : Sem.run Try.prog (loadCells ⟨g, 0, none⟩ 16) w = .ok (kA L) w := by
  have := run_loadCells_list (P := Try.prog) w ⟨g, 0, none⟩ (ciCells L) (fun j v hj => by
    have hj16 : j < 16 := by
      have := (List.getElem?_eq_some_iff.1 hj).1
      rw [ciCells_len, hl] at this
      omega
    obtain ⟨g', e, c0, c1, c2, c3⟩ := h.at (j / 4) (by omega)
    simp only [Option.some.injEq, Addr.mk.injEq, and_true] at e
    subst e
    have ha := ciCells_at L (j / 4) (by omega)
    rw [addr_add0, ← hj]
    have h4 : j % 4 = 0 ∨ j % 4 = 1 ∨ j % 4 = 2 ∨ j % 4 = 3 := by omega
    rcases h4 with e | e | e | e
    · have e2 : j / 4 * 4 = j := by omega
      rw [e2] at c0 ha; rw [c0]; exact ha.1.symm
    · have e2 : j / 4 * 4 + 1 = j := by omega
      rw [e2] at c1 ha; rw [c1]; exact ha.2.1.symm
    · have e2 : j / 4 * 4 + 2 = j := by omega
      rw [e2] at c2 ha; rw [c2]; exact ha.2.2.1.symm
    · have e2 : j / 4 * 4 + 3 = j := by omega
      rw [e2] at c3 ha; rw [c3]; exact ha.2.2.2.symm)
  rw [ciCells_len, hl] at this
  exact this
set_option maxRecDepth 20000 in
set_option maxHeartbeats 2000000 in
theorem configOf_no (v : Value) (L : List Ci4) (w : World) (h : Cis w v L) (hc : confB L = false) :
    Calls Try.prog 84 #[v] w fun e w' => e = .returned (.tuple #[.agg (kA zL), .bool false]) ∧ Later w w' := by
  obtain ⟨a, cap, rfl, _⟩ := id h
  have HL := hid (Later.alloc w (.cells (kA zL) 106))
  have HB := hid (KBlk.new w zL)
  have H := hid (h.later HL.out)
  have HI := hid (fun w0 (h0 : Cis w0 (.slice a L.length cap) L) => isConfigP_any _ L w0 h0)
  unfold BoolAns at HI
  have hne : (confAns L).getD false = false := by unfold confAns; split <;> simp [hc]
  rw [hne] at HI
  obtain ⟨ob, hob⟩ : ∃ ob, (confAns L).isSome = ob := ⟨_, rfl⟩
  rw [hob] at HI
  rw [zL_kA] at HL HB H
  clear h hob hne hc
  go_enter Try.func84, Try.ntmps84
  go_wp2_with fail
  generalize w.alloc (.cells #[.int .i64 0, .int .i64 0, .int .i64 0, .int .i64 0, .int .i64 0, .int .i64 0, .int .i64 0, .int .i64 0, .int .i64 0, .int .i64 0, .int .i64 0, .int .i64 0, .int .i64 0, .int .i64 0, .int .i64 0, .int .i64 0] 106) = w1 at HL HB H ⊢
  refine (HI.out _ H.out).mono ?_
  rintro e w2 ⟨rfl, hL⟩
  have HL2 := hid (HL.out.trans hL)
  have HB2 := hid (HB.out.later hL)
  have HLz := hid (setRow_later HL2.out (B := w.heap.size) (Nat.le_refl _) (kA zL))
  have HBz := hid (HB2.out.set zL)
  clear hL
  go_wp2_with (refine wpList_storeK _ (w2.setRow w.heap.size (kA zL)) (by rfl) 106 _ _ (by rfl) ⟨w.heap.size, 0, none⟩ (by rfl) (.agg (kA zL)) (by rfl) (HB2.out.store rfl rfl) (fun u => ?_))
  have hv := HBz.out.var rfl
  refine bodyPost_ret (v := .tuple #[.agg (kA zL), .bool false]) ?_ rfl ⟨rfl, HLz.out⟩
  exact results_cell_tmpK rfl _ _ _ _ _ _ rfl rfl hv
set_option maxRecDepth 20000 in
set_option maxHeartbeats 2000000 in
theorem configOf_yes (v : Value) (L : List Ci4) (w : World) (h : Cis w v L) (hc : confB L = true) :
    Calls Try.prog 84 #[v] w fun e w' => e = .returned (.tuple #[.agg (kA L), .bool true]) ∧ Later w w' := by
  obtain ⟨a, cap, rfl, _⟩ := id h
  have hl := fourB_len (confB_four hc)
  obtain ⟨g, rfl, _⟩ := h.at 0 (by omega)
  have HL := hid (Later.alloc w (.cells (kA zL) 106))
  have HB := hid (KBlk.new w zL)
  have H := hid (h.later HL.out)
  have HI := hid (fun w0 (h0 : Cis w0 (.slice (some ⟨g, 0, none⟩) L.length cap) L) => isConfigP_any _ L w0 h0)
  unfold BoolAns at HI
  have hne : confAns L = some true := by unfold confAns; rw [if_pos (confB_four hc), hc]
  rw [hne] at HI
  have harr : ∀ w0, (Instr.arrayAt 106 (.slice (some ⟨g, 0, none⟩) L.length cap)).run Try.prog w0 = .ok (.pointer (some ⟨g, 0, none⟩)) w0 := fun w0 => by
    rw [hl]
    simp [Instr.arrayAt, run_underlying Try.underlying106]
  have HN := hid hl
  rw [zL_kA] at HL HB H
  clear h hne hc hl
  go_enter Try.func84, Try.ntmps84
  go_wp2_with fail
  generalize w.alloc (.cells #[.int .i64 0, .int .i64 0, .int .i64 0, .int .i64 0, .int .i64 0, .int .i64 0, .int .i64 0, .int .i64 0, .int .i64 0, .int .i64 0, .int .i64 0, .int .i64 0, .int .i64 0, .int .i64 0, .int .i64 0, .int .i64 0] 106) = w1 at HL HB H ⊢
  refine (HI.out _ H.out).mono ?_
  rintro e w2 ⟨rfl, hL⟩
  have HL2 := hid (HL.out.trans hL)
  have HB2 := hid (HB.out.later hL)
  have H2 := hid (H.out.later hL)
  have HLz := hid (setRow_later HL2.out (B := w.heap.size) (Nat.le_refl _) (kA L))
  have HBz := hid (HB2.out.set L)
  clear hL
  go_wp2_with (first | (refine wpList_loadK _ (by rfl) 106 _ (by rfl) ⟨g, 0, none⟩ (by rfl) Try.isAgg106 16 Try.sizeOf106 (kA L) (by exact H2.out.loadK HN.out) ?_) | (refine wpList_storeK _ (w2.setRow w.heap.size (kA L)) (by rfl) 106 _ _ (by rfl) ⟨w.heap.size, 0, none⟩ (by rfl) (.agg (kA L)) (by rfl) (HB2.out.store rfl HN.out) (fun u => ?_)))
  have hv := HBz.out.var HN.out
  refine bodyPost_ret (v := .tuple #[.agg (kA L), .bool true]) ?_ rfl ⟨rfl, HLz.out⟩
  exact results_cell_tmpK rfl _ _ _ _ _ _ rfl rfl hv


theorem indexK (L : List Ci4) (hl : L.length = 4) (k : Nat) (hk : k < 4) (w : World) :
    (Instr.index 106 (.agg (kA L)) (.int .i64 k)).run Try.prog w = .ok (.agg #[.int .i64 (L.getD k c00).1, .int .i64 (L.getD k c00).2.1, .int .i64 (L.getD k c00).2.2.1, .int .i64 (L.getD k c00).2.2.2]) w := by
  obtain ⟨t0, t1, t2, t3, rfl⟩ := four_of L hl
  obtain ⟨a0, b0, x0, y0⟩ := t0
  obtain ⟨a1, b1, x1, y1⟩ := t1
  obtain ⟨a2, b2, x2, y2⟩ := t2
  obtain ⟨a3, b3, x3, y3⟩ := t3
  have hA : kA [(a0, b0, x0, y0), (a1, b1, x1, y1), (a2, b2, x2, y2), (a3, b3, x3, y3)] = #[.int .i64 a0, .int .i64 b0, .int .i64 x0, .int .i64 y0, .int .i64 a1, .int .i64 b1, .int .i64 x1, .int .i64 y1, .int .i64 a2, .int .i64 b2, .int .i64 x2, .int .i64 y2, .int .i64 a3, .int .i64 b3, .int .i64 x3, .int .i64 y3] := rfl
  rw [hA]
  rcases lt4 hk with rfl | rfl | rfl | rfl <;> simp [Instr.index, run_underlying Try.underlying106, asIntOf, go_sem]
set_option maxRecDepth 20000 in
set_option maxHeartbeats 2000000 in
theorem curvatures_any (L : List Ci4) (w : World) (hl : L.length = 4) :
    Calls Try.prog 85 #[.agg (kA L)] w fun e w' => MadeInts w (curvL L) e w' := by
  have HLA := hid (Later.alloc w (.cells (kA L) 106))
  have HB := hid (KBlk.new w L)
  have HN := hid hl
  have HIX := hid (fun k hk w0 => indexK L hl k hk w0)
  have hb : L.length ≤ 1000 := by omega
  clear hl
  go_enter Try.func85, Try.ntmps85
  go_wp2_with (refine wpList_loadK _ (by rfl) 106 _ (by rfl) ⟨w.heap.size, 0, none⟩ (by rfl) Try.isAgg106 16 Try.sizeOf106 (kA L) (by exact HB.out.load HN.out) ?_)
  go_loopw [3, 7] (fun o i wr => ∃ k : Nat, k ≤ L.length ∧ i = .int .i64 k ∧ OwnInts w.heap.size wr.heap.size wr o (curvL (L.take k)) ∧ Later w wr) (fun _ i _ => L.length - (intOf i).toNat)
  case atStart => exact ⟨0, Nat.zero_le _, rfl, OwnInts.nothingC _ _ _, HLA.out⟩
  case round =>
    obtain ⟨k, hk, rfl, hO, hL⟩ := hrel
    obtain ⟨o1, o2, rfl, _⟩ := hO.shape
    have HO := hid hO
    have HL := hid hL
    by_cases hlt : k < L.length
    · have hk4 : (k : Int) < 4 := by have := HN.out; omega
      have hix := HIX.out k (by have := HN.out; omega)
      have HS := hid (curv_take L k hlt)
      have hFl : (curvL (L.take k)).length ≤ 1000 := by simp [curvL]; omega
      obtain ⟨F, hF⟩ : ∃ F, curvL (L.take k) = F := ⟨_, rfl⟩
      obtain ⟨t, ht⟩ : ∃ t, L.getD k c00 = t := ⟨_, rfl⟩
      rw [ht] at hix HS
      rw [hF] at HO HS hFl ⊢
      obtain ⟨p, q, r, s⟩ := t
      simp only at hix HS
      have hA := Later.alloc wr (.cells #[.int .i64 p, .int .i64 q, .int .i64 r, .int .i64 s] 103)
      have hA2 := Later.alloc (wr.alloc (.cells #[.int .i64 p, .int .i64 q, .int .i64 r, .int .i64 s] 103)) (.cells #[.int .i64 q] 3)
      have HOA := hid ((HO.out.later hA).later hA2)
      have HLA := hid ((HL.out.trans hA).trans hA2)
      have HWS := hid (show w.heap.size ≤ wr.heap.size from hL.size)
      obtain ⟨i0, hi, hz0, hz1, hz2⟩ := info_parts Try.infoInt
      have hsz3 : (wr.alloc (.cells #[.int .i64 p, .int .i64 q, .int .i64 r, .int .i64 s] 103)).heap.size = wr.heap.size + 1 := by simp
      clear ht hF hL hO hA hA2
      go_wp2_with (at_builtin; refine wpList_append_lies _ (by rfl) _ _ _ (by rfl) w.heap.size 3 i0 (.int .i64 0) 1 8 Try.underlying24 hi hz0 hz1 hz2 rfl (by omega) _ F.length (F.map (Value.int .i64)) (by rfl) (by exact HOA.out.1) ⟨wr.heap.size + 1, 0, none⟩ 1 1 [.int .i64 q] (by rfl) (by rfl) (World.news_of_block (cs := #[.int .i64 q]) (t := 3) (fr := (0, 0)) (by rw [← hsz3]; exact heap_alloc_new _ _)) (by simp [Value.oneCell']) (by omega) (by unfold maxLen; omega) (by omega) (by have := HWS.out; simp; omega) (wr.heap.size + 1 + 1) (by simp) ?_)
      intro g5 cap1 w5 hown5 hgrow hat hglt
      have HP := hid (OwnInts.pushedC hown5)
      have HL5 := hid (show Later w w5 from HLA.out.grown hgrow (by have := HWS.out; simp; omega) (fun b hb => (HOA.out.1.lt b hb).1))
      clear hown5 hgrow hat hglt
      go_wp2_with fail
      go_roundw
      case rel => exact ⟨k + 1, hlt, by go_num, by rw [HS.out]; simpa using HP.out, HL5.out⟩
      case measure => simp [intOf]; omega
    · obtain rfl : k = L.length := by omega
      have hk4 : ¬ (L.length : Int) < 4 := by have := HN.out; omega
      have HE := hid (show curvL (L.take L.length) = curvL L by rw [List.take_length])
      go_wp2_with fail
      go_ret
      exact ⟨_, rfl, by rw [← HE.out]; exact HO.out, HL.out⟩
set_option maxRecDepth 20000 in
set_option maxHeartbeats 2000000 in
theorem curvP_any (v : Value) (L : List Ci4) (w : World) (h : Cis w v L) :
    Calls Try.prog 32 #[v] w fun e w' => IntsAns w (curvAns L) e w' := by
  obtain ⟨a, cap, rfl, _⟩ := id h
  have H := hid h
  cases h4 : confB L
  · have HC := hid (configOf_no _ L w h h4)
    have HA := hid (show curvAns L = none by unfold curvAns; rw [h4]; simp)
    clear h4 h
    go_enter Try.func32, Try.ntmps32
    go_wp2_with fail
    refine HC.out.mono ?_
    rintro e w2 ⟨rfl, hL⟩
    have hB : KBlk (w2.alloc (.cells #[.int .i64 0, .int .i64 0, .int .i64 0, .int .i64 0, .int .i64 0, .int .i64 0, .int .i64 0, .int .i64 0, .int .i64 0, .int .i64 0, .int .i64 0, .int .i64 0, .int .i64 0, .int .i64 0, .int .i64 0, .int .i64 0] 106)) w2.heap.size zL := KBlk.new w2 zL
    have HL := hid (setRow_later (hL.trans (Later.alloc w2 (.cells #[.int .i64 0, .int .i64 0, .int .i64 0, .int .i64 0, .int .i64 0, .int .i64 0, .int .i64 0, .int .i64 0, .int .i64 0, .int .i64 0, .int .i64 0, .int .i64 0, .int .i64 0, .int .i64 0, .int .i64 0, .int .i64 0] 106))) (B := w2.heap.size) hL.size (kA zL))
    have HST := hid (hB.store rfl (L' := zL) rfl)
    clear hL hB
    go_wp2_with (refine wpList_storeK _ ((w2.alloc (.cells #[.int .i64 0, .int .i64 0, .int .i64 0, .int .i64 0, .int .i64 0, .int .i64 0, .int .i64 0, .int .i64 0, .int .i64 0, .int .i64 0, .int .i64 0, .int .i64 0, .int .i64 0, .int .i64 0, .int .i64 0, .int .i64 0] 106)).setRow w2.heap.size (kA zL)) (by rfl) 106 _ _ (by rfl) ⟨w2.heap.size, 0, none⟩ (by rfl) (.agg (kA zL)) (by rfl) (by exact HST.out) (fun u => ?_))
    generalize (w2.alloc (.cells #[.int .i64 0, .int .i64 0, .int .i64 0, .int .i64 0, .int .i64 0, .int .i64 0, .int .i64 0, .int .i64 0, .int .i64 0, .int .i64 0, .int .i64 0, .int .i64 0, .int .i64 0, .int .i64 0, .int .i64 0, .int .i64 0] 106)).setRow w2.heap.size (kA zL) = w3 at HL ⊢
    go_wp2_with fail
    go_ret2
    exact ⟨_, by rw [HA.out]; rfl, by rw [HA.out]; exact OwnInts.nothingC _ _ _, HL.out⟩
  · have HC := hid (configOf_yes _ L w h h4)
    have HA := hid (show curvAns L = some (curvL L) by unfold curvAns; rw [h4]; simp)
    have HN := hid (fourB_len (confB_four h4))
    clear h4 h
    go_enter Try.func32, Try.ntmps32
    go_wp2_with fail
    refine HC.out.mono ?_
    rintro e w2 ⟨rfl, hL⟩
    have hB : KBlk (w2.alloc (.cells #[.int .i64 0, .int .i64 0, .int .i64 0, .int .i64 0, .int .i64 0, .int .i64 0, .int .i64 0, .int .i64 0, .int .i64 0, .int .i64 0, .int .i64 0, .int .i64 0, .int .i64 0, .int .i64 0, .int .i64 0, .int .i64 0] 106)) w2.heap.size zL := KBlk.new w2 zL
    have HL := hid (setRow_later (hL.trans (Later.alloc w2 (.cells #[.int .i64 0, .int .i64 0, .int .i64 0, .int .i64 0, .int .i64 0, .int .i64 0, .int .i64 0, .int .i64 0, .int .i64 0, .int .i64 0, .int .i64 0, .int .i64 0, .int .i64 0, .int .i64 0, .int .i64 0, .int .i64 0] 106))) (B := w2.heap.size) hL.size (kA L))
    have HST := hid (hB.store rfl (L' := L) HN.out)
    have HB := hid (hB.set L)
    have hWS := hL.size
    clear hL hB
    go_wp2_with (first | (refine wpList_loadK _ (by rfl) 106 _ (by rfl) ⟨w2.heap.size, 0, none⟩ (by rfl) Try.isAgg106 16 Try.sizeOf106 (kA L) (by exact HB.out.load HN.out) ?_) | (refine wpList_storeK _ ((w2.alloc (.cells #[.int .i64 0, .int .i64 0, .int .i64 0, .int .i64 0, .int .i64 0, .int .i64 0, .int .i64 0, .int .i64 0, .int .i64 0, .int .i64 0, .int .i64 0, .int .i64 0, .int .i64 0, .int .i64 0, .int .i64 0, .int .i64 0] 106)).setRow w2.heap.size (kA L)) (by rfl) 106 _ _ (by rfl) ⟨w2.heap.size, 0, none⟩ (by rfl) (.agg (kA L)) (by rfl) (by exact HST.out) (fun u => ?_)))
    generalize (w2.alloc (.cells #[.int .i64 0, .int .i64 0, .int .i64 0, .int .i64 0, .int .i64 0, .int .i64 0, .int .i64 0, .int .i64 0, .int .i64 0, .int .i64 0, .int .i64 0, .int .i64 0, .int .i64 0, .int .i64 0, .int .i64 0, .int .i64 0] 106)).setRow w2.heap.size (kA L) = w3 at HL HB ⊢
    refine (curvatures_any L _ HN.out).mono ?_
    rintro e w4 ⟨v4, rfl, hO, hL⟩
    have HL4 := hid (HL.out.trans hL)
    have HO := hid hO
    clear hL hO
    go_wp2_with fail
    go_ret2
    exact ⟨_, by rw [HA.out]; rfl, by rw [HA.out]; exact HO.out.wide HL.out.size (Nat.le_refl _), HL4.out⟩


theorem results_cellK {fn : Func} {p : Tmp} {ty : TypeId} (h : fn.results = #[.cell p ty]) (tmps : Array Value) (P : Program) (w : World) (ad : Addr) (A : Value) (hp : tmps.getD p undef = .pointer (some ad))
    (hv : (loadVar ty ad).run P w = .ok A w) : (results fn tmps).run P w = .ok A w := by
  rw [results_cellC h, hp]
  simp [asAddr, hv]
def imgK (L : List Ci4) (i : Nat) : Nat → Ci4
  | 0 => plusOf c00 (L.getD i c00) (-3)
  | k + 1 => plusOf (imgK L i k) (L.getD k c00) 2
theorem imgK_four (L : List Ci4) (i : Nat) : imgK L i 4 = ciNew L i := by
  unfold ciNew
  simp only [imgK, plusOf, c00]
  refine Prod.ext ?_ (Prod.ext ?_ (Prod.ext ?_ ?_)) <;> simp only <;> omega
def BdL (N : Int) (L : List Ci4) : Prop := ∀ i, i < 4 → Bd N (L.getD i c00)
theorem imgK_bd {L : List Ci4} {i : Nat} (hi : i < 4) (h : BdL 1000000000000000 L) : ∀ k : Nat, k ≤ 4 → Bd ((3 + 2 * (k : Int)) * 1000000000000000) (imgK L i k) := by
  intro k
  induction k with
  | zero =>
    intro _
    have := h i hi
    unfold Bd at *
    simp only [imgK, plusOf, show c00.1 = 0 from rfl, show c00.2.1 = 0 from rfl, show c00.2.2.1 = 0 from rfl, show c00.2.2.2 = 0 from rfl]
    omega
  | succ k ih =>
    intro hk
    have h1 := ih (by omega)
    have h2 := h k (by omega)
    unfold Bd at *
    simp only [imgK, plusOf]
    omega
theorem KBlk.at {w : World} {B : Nat} {L : List Ci4} (h : KBlk w B L) (hl : L.length = 4) (i : Nat) (hi : i < 4) :
    (w.cell? ⟨B, i * 4, none⟩ = some (.int .i64 (L.getD i c00).1) ∧ w.cell? ⟨B, i * 4 + 1, none⟩ = some (.int .i64 (L.getD i c00).2.1) ∧ w.cell? ⟨B, i * 4 + 2, none⟩ = some (.int .i64 (L.getD i c00).2.2.1) ∧ w.cell? ⟨B, i * 4 + 3, none⟩ = some (.int .i64 (L.getD i c00).2.2.2)) ∧
    w.frozen? ⟨B, i * 4, none⟩ = false ∧ w.frozen? ⟨B, i * 4 + 1, none⟩ = false ∧ w.frozen? ⟨B, i * 4 + 2, none⟩ = false ∧ w.frozen? ⟨B, i * 4 + 3, none⟩ = false := by
  have ha := ciCells_at L i (by omega)
  exact ⟨⟨(h.cell _).trans ha.1, (h.cell _).trans ha.2.1, (h.cell _).trans ha.2.2.1, (h.cell _).trans ha.2.2.2⟩, h.frozen _, h.frozen _, h.frozen _, h.frozen _⟩
theorem KBlk.far {w w' : World} {B : Nat} {L : List Ci4} (h : KBlk w B L) (k : w'.heap[B]? = w.heap[B]?) : KBlk w' B L := k.trans h
theorem KBlk.one {w : World} {B : Nat} {L : List Ci4} (h : KBlk w B L) (i : Nat) (hi : i < L.length) (p q r s : Int) :
    KBlk ((((w.setCell ⟨B, i * 4, none⟩ (.int .i64 p)).setCell ⟨B, i * 4 + 1, none⟩ (.int .i64 q)).setCell ⟨B, i * 4 + 2, none⟩ (.int .i64 r)).setCell ⟨B, i * 4 + 3, none⟩ (.int .i64 s)) B (L.set i (p, q, r, s)) := by
  have h1 := heap_setCell_same w B (i * 4) (kA L) 106 (.int .i64 p) h
  have h2 := heap_setCell_same _ B (i * 4 + 1) _ 106 (.int .i64 q) h1
  have h3 := heap_setCell_same _ B (i * 4 + 2) _ 106 (.int .i64 r) h2
  have h4 := heap_setCell_same _ B (i * 4 + 3) _ 106 (.int .i64 s) h3
  unfold KBlk
  rw [h4]
  refine congrArg (fun c => some (Obj.cells c 106 (0, 0))) ?_
  apply Array.ext'
  rw [Array.toList_setIfInBounds, Array.toList_setIfInBounds, Array.toList_setIfInBounds, Array.toList_setIfInBounds]
  exact ciCells_set L i hi (p, q, r, s)
/-- a box of a circle that may be written -/
def FBox (w : World) (B : Nat) (t : Ci4) : Prop := CBox w B t.1 t.2.1 t.2.2.1 t.2.2.2 ∧ ∀ j, w.frozen? ⟨B, j, none⟩ = false
theorem FBox.new (w : World) (a b x y : Int) (T : TypeId) : FBox (w.alloc (.cells #[.int .i64 a, .int .i64 b, .int .i64 x, .int .i64 y] T)) w.heap.size (a, b, x, y) := ⟨CBox.new w a b x y T, fun j => by simp [go_sem]⟩
theorem FBox.keep {w w' : World} {B : Nat} {t : Ci4} (h : FBox w B t) (k : w'.heap[B]? = w.heap[B]?) : FBox w' B t :=
  ⟨⟨cell_keep h.1.1 k, cell_keep h.1.2.1 k, cell_keep h.1.2.2.1 k, cell_keep h.1.2.2.2 k⟩, fun j => (World.frozen?_of_block k).trans (h.2 j)⟩
theorem FBox.later {w w' : World} {B : Nat} {t : Ci4} (h : FBox w B t) (k : Later w w') : FBox w' B t := h.keep (k.block B (World.block_lt_of_cell? w ⟨B, 0, none⟩ h.1.1))
theorem FBox.set {w : World} {B : Nat} {t : Ci4} (h : FBox w B t) (p q r s : Int) :
    FBox ((((w.setCell ⟨B, 0, none⟩ (.int .i64 p)).setCell ⟨B, 1, none⟩ (.int .i64 q)).setCell ⟨B, 2, none⟩ (.int .i64 r)).setCell ⟨B, 3, none⟩ (.int .i64 s)) B (p, q, r, s) :=
  ⟨h.1.set p q r s, fun j => by simp only [World.frozen?_setCell]; exact h.2 j⟩

set_option maxRecDepth 20000 in
set_option maxHeartbeats 4000000 in
theorem swappedK_any (L : List Ci4) (i : Nat) (w : World) (hi : i < 4) (hl : L.length = 4) (hb : BdL 1000000000000000 L) :
    Calls Try.prog 88 #[.agg (kA L), .int .i64 i] w fun e w' => e = .returned (.agg (kA (ciSwL L i))) ∧ Later w w' := by
  have HL := hid ((Later.alloc w (.cells (kA L) 106)).trans (Later.alloc _ (.cells (kA zL) 106)))
  have HB := hid ((KBlk.new w L).later (Later.alloc _ (.cells (kA zL) 106)))
  have HZ : Hid (KBlk ((w.alloc (.cells (kA L) 106)).alloc (.cells (kA zL) 106)) (w.heap.size + 1) zL) := hid (by have := KBlk.new (w.alloc (.cells (kA L) 106)) zL; simpa using this)
  have HN := hid hl
  have HBD := hid hb
  have HIM := hid (imgK_bd hi hb)
  have hi4 : (i : Int) < 4 := by omega
  have HI := hid hi
  rw [zL_kA] at HL HB HZ
  have HPL := hid (fun k (hk : k ≤ 4) (j : Nat) (hj : j < 4) (t : Int) (ht : t = 2) w0 => show Calls Try.prog 124 #[.agg #[.int .i64 (imgK L i k).1, .int .i64 (imgK L i k).2.1, .int .i64 (imgK L i k).2.2.1, .int .i64 (imgK L i k).2.2.2], .agg #[.int .i64 (L.getD j c00).1, .int .i64 (L.getD j c00).2.1, .int .i64 (L.getD j c00).2.2.1, .int .i64 (L.getD j c00).2.2.2], .int .i64 2] w0 fun e w' => CiRes w0 (plusOf (imgK L i k) (L.getD j c00) 2) e w' from by
    have h1 := imgK_bd hi hb k hk
    have h2 := hb j hj
    unfold Bd at h1 h2
    exact plus_any _ _ _ _ _ _ _ _ 2 w0 (by unfold Lo; omega) (by unfold Lo; omega) (by unfold Lo; omega) (by unfold Lo; omega) (by unfold Hi; omega) (by unfold Hi; omega) (by unfold Hi; omega) (by unfold Hi; omega))
  have HP0 := hid (fun w0 => show Calls Try.prog 124 #[.agg #[.int .i64 0, .int .i64 0, .int .i64 0, .int .i64 0], .agg #[.int .i64 (L.getD i c00).1, .int .i64 (L.getD i c00).2.1, .int .i64 (L.getD i c00).2.2.1, .int .i64 (L.getD i c00).2.2.2], .int .i64 (-3)] w0 fun e w' => CiRes w0 (imgK L i 0) e w' from by
    have h2 := hb i hi
    unfold Bd at h2
    exact plus_any 0 0 0 0 _ _ _ _ (-3) w0 (by unfold Lo; omega) (by unfold Lo; omega) (by unfold Lo; omega) (by unfold Lo; omega) (by unfold Hi; omega) (by unfold Hi; omega) (by unfold Hi; omega) (by unfold Hi; omega))
  clear hl hb hi
  have HAT := hid (HB.out.at HN.out i HI.out)
  have HST := hid (fun (W : World) (h : KBlk W w.heap.size L) => h.at HN.out i HI.out)
  obtain ⟨t, ht⟩ : ∃ t, L.getD i c00 = t := ⟨_, rfl⟩
  rw [ht] at HP0 HAT HST
  obtain ⟨p, q, r, s⟩ := t
  obtain ⟨m, hm⟩ : ∃ m, imgK L i 0 = m := ⟨_, rfl⟩
  have HM0 := hid hm
  rw [hm] at HP0
  obtain ⟨m0, m1, m2, m3⟩ := m
  simp only at HP0 HAT HST
  unfold CiRes at HP0
  obtain ⟨⟨c0, c1, c2, c3⟩, _⟩ := HAT.out
  clear ht hm HAT
  go_enter Try.func88, Try.ntmps88
  go_wp2_with fail
  generalize (w.alloc (.cells (kA L) 106)).alloc (.cells #[.int .i64 0, .int .i64 0, .int .i64 0, .int .i64 0, .int .i64 0, .int .i64 0, .int .i64 0, .int .i64 0, .int .i64 0, .int .i64 0, .int .i64 0, .int .i64 0, .int .i64 0, .int .i64 0, .int .i64 0, .int .i64 0] 106) = w1 at HL HB HZ c0 c1 c2 c3 ⊢
  refine (HP0.out _).mono ?_
  rintro e w2 ⟨rfl, hL2⟩
  have hA := Later.alloc w2 (.cells #[.int .i64 m0, .int .i64 m1, .int .i64 m2, .int .i64 m3] 103)
  have HL3 := hid ((HL.out.trans hL2).trans hA)
  have HB3 := hid ((HB.out.later hL2).later hA)
  have HZ3 := hid ((HZ.out.later hL2).later hA)
  have HF3 := hid (FBox.new w2 m0 m1 m2 m3 103)
  have HS3 := hid (show w.heap.size + 1 < w2.heap.size by have := (HZ.out.later hL2).lt; exact this)
  obtain ⟨B2, hB2⟩ : ∃ B, w2.heap.size = B := ⟨_, rfl⟩
  clear hL2 hA c0 c1 c2 c3 HL HB HZ HP0
  go_wp2_with (refine wpList_loadK _ (by rfl) 106 _ (by rfl) ⟨w.heap.size, 0, none⟩ (by rfl) Try.isAgg106 16 Try.sizeOf106 (kA L) (by exact HB3.out.load HN.out) ?_)
  generalize w2.alloc (.cells #[.int .i64 m0, .int .i64 m1, .int .i64 m2, .int .i64 m3] 103) = w3 at HL3 HB3 HZ3 HF3 ⊢
  rw [hB2] at HF3 HS3
  clear hB2
  go_loopw [14] (fun j wr => ∃ k : Nat, k ≤ 4 ∧ j = .int .i64 k ∧ FBox wr B2 (imgK L i k) ∧ KBlk wr w.heap.size L ∧ KBlk wr (w.heap.size + 1) zL ∧ Later w wr) (fun j _ => 4 - (intOf j).toNat)
  case atStart => exact ⟨0, by omega, rfl, by rw [HM0.out]; exact HF3.out, HB3.out, HZ3.out, HL3.out⟩
  case round =>
    clear HF3 HB3 HZ3 HL3
    obtain ⟨k, hk, rfl, hF, hB, hZ, hL⟩ := hrel
    have HF := hid hF
    have HB := hid hB
    have HZ := hid hZ
    have HL := hid hL
    by_cases hlt : k < 4
    · have hkI : (k : Int) < 4 := by omega
      have hix := fun w0 => indexK L HN.out k hlt w0
      have HPk := hid (fun w0 => HPL.out k hk k hlt 2 rfl w0)
      have HSk := hid (show imgK L i (k + 1) = plusOf (imgK L i k) (L.getD k c00) 2 from rfl)
      obtain ⟨u, hu⟩ : ∃ u, L.getD k c00 = u := ⟨_, rfl⟩
      rw [hu] at hix HPk HSk
      obtain ⟨m, hm⟩ : ∃ m, imgK L i k = m := ⟨_, rfl⟩
      rw [hm] at HPk HF HSk
      obtain ⟨n, hn⟩ : ∃ n, plusOf m u 2 = n := ⟨_, rfl⟩
      rw [hn] at HPk HSk
      obtain ⟨p2, q2, r2, s2⟩ := u
      obtain ⟨m0, m1, m2, m3⟩ := m
      obtain ⟨n0, n1, n2, n3⟩ := n
      unfold CiRes at HPk
      simp only at hix HPk
      have hA := Later.alloc wr (.cells #[.int .i64 p2, .int .i64 q2, .int .i64 r2, .int .i64 s2] 103)
      have HF4 := hid (HF.out.later hA)
      have HB4 := hid (HB.out.later hA)
      have HZ4 := hid (HZ.out.later hA)
      have HL4 := hid (HL.out.trans hA)
      have HC4 := hid (CBox.new wr p2 q2 r2 s2 103)
      obtain ⟨⟨b0, b1, b2, b3⟩, _⟩ := HF4.out
      clear hu hm hn hF hB hZ hL hA HF HB HZ HL
      go_wp2_with fail
      generalize wr.alloc (.cells #[.int .i64 p2, .int .i64 q2, .int .i64 r2, .int .i64 s2] 103) = w4 at HF4 HB4 HZ4 HL4 HC4 b0 b1 b2 b3 ⊢
      refine (HPk.out _).mono ?_
      rintro e w5 ⟨rfl, hL5⟩
      have HF5 := hid (HF4.out.later hL5)
      have HB5 := hid (HB4.out.later hL5)
      have HZ5 := hid (HZ4.out.later hL5)
      have HL5 := hid (HL4.out.trans hL5)
      obtain ⟨⟨d0, d1, d2, d3⟩, hf⟩ := HF5.out
      have f0 := hf 0
      have f1 := hf 1
      have f2 := hf 2
      have f3 := hf 3
      have hne0 : w.heap.size ≠ B2 := by have := HS3.out; omega
      have hne1 : w.heap.size + 1 ≠ B2 := by have := HS3.out; omega
      have HF6 := hid (HF5.out.set n0 n1 n2 n3)
      have HB6 := hid (HB5.out.far (set4_far w5 B2 0 w.heap.size (.int .i64 n0) (.int .i64 n1) (.int .i64 n2) (.int .i64 n3) hne0))
      have HZ6 := hid (HZ5.out.far (set4_far w5 B2 0 (w.heap.size + 1) (.int .i64 n0) (.int .i64 n1) (.int .i64 n2) (.int .i64 n3) hne1))
      have HL6 := hid (set4_later HL5.out (show w.heap.size ≤ B2 by have := HS3.out; omega) 0 (.int .i64 n0) (.int .i64 n1) (.int .i64 n2) (.int .i64 n3))
      clear hL5 hf b0 b1 b2 b3 hne0 hne1
      go_wp2_with fail
      go_roundw
      case rel => exact ⟨k + 1, hlt, by go_num, by rw [HSk.out]; exact HF6.out, HB6.out, HZ6.out, HL6.out⟩
      case measure => simp [intOf]; omega
    · obtain rfl : k = 4 := by omega
      have HE := hid (show imgK L i 4 = ciNew L i from imgK_four L i)
      obtain ⟨m, hm⟩ : ∃ m, imgK L i 4 = m := ⟨_, rfl⟩
      rw [hm] at HF HE
      obtain ⟨m0, m1, m2, m3⟩ := m
      obtain ⟨⟨b0, b1, b2, b3⟩, _⟩ := HF.out
      obtain ⟨⟨c0, c1, c2, c3⟩, g0, g1, g2, g3⟩ := HST.out _ HB.out
      have hne1 : w.heap.size + 1 ≠ w.heap.size := by omega
      have HB6 := hid (HB.out.one i (by have := HN.out; have := HI.out; omega) m0 m1 m2 m3)
      have HZ6 := hid (HZ.out.far (set4_far wr w.heap.size (i * 4) (w.heap.size + 1) (.int .i64 m0) (.int .i64 m1) (.int .i64 m2) (.int .i64 m3) hne1))
      have HL6 := hid (set4_later HL.out (Nat.le_refl w.heap.size) (i * 4) (.int .i64 m0) (.int .i64 m1) (.int .i64 m2) (.int .i64 m3))
      have HSW := hid (show L.set i (m0, m1, m2, m3) = ciSwL L i by unfold ciSwL; rw [← HE.out])
      rw [HSW.out] at HB6
      have HN6 := hid (swL_len4 L i HN.out)
      have HZ7 := hid (HZ6.out.set (ciSwL L i))
      have HL7 := hid (setRow_later HL6.out (show w.heap.size ≤ w.heap.size + 1 by omega) (kA (ciSwL L i)))
      clear hm hF hB hZ hL hne1
      go_wp2_with (first | (refine wpList_loadK _ (by rfl) 106 _ (by rfl) ⟨w.heap.size, 0, none⟩ (by rfl) Try.isAgg106 16 Try.sizeOf106 (kA (ciSwL L i)) (by exact HB6.out.load HN6.out) ?_) | (refine wpList_storeK _ (World.setRow _ (w.heap.size + 1) (kA (ciSwL L i))) (by rfl) 106 _ _ (by rfl) ⟨w.heap.size + 1, 0, none⟩ (by rfl) (.agg (kA (ciSwL L i))) (by rfl) (by exact HZ6.out.store rfl HN6.out) (fun u => ?_)))
      have hv := HZ7.out.var HN6.out
      refine bodyPost_ret (v := .agg (kA (ciSwL L i))) ?_ rfl ⟨rfl, HL7.out⟩
      exact results_cellK rfl _ _ _ _ _ rfl hv
end Go.Proofs.Ytoaopmafokoaoaa
