/- Configurations as arrays (the program): a block that holds one; steps that load and store it. -/
import Derived.Test.YtljikcajfmnnmabCiJ
import Derived.Laws.CopyRow
namespace Go.Proofs.Ytljikcajfmnnmab
open Go.RowKit

def kA (L : List Ci4) : Array Value := (ciCells L).toArray
theorem kA_size {L : List Ci4} (h : L.length = 4) : (kA L).size = 16 := by unfold kA; simp [ciCells_len, h]
/-- A block that holds four circles. -/
def KBlk (w : World) (B : Nat) (L : List Ci4) : Prop := w.heap[B]? = some (.cells (kA L) 60 (0, 0))
theorem KBlk.new (w : World) (L : List Ci4) : KBlk (w.alloc (.cells (kA L) 60)) w.heap.size L := heap_alloc_new w _
theorem KBlk.lt {w : World} {B : Nat} {L : List Ci4} (h : KBlk w B L) : B < w.heap.size := (Array.getElem?_eq_some_iff.1 h).1
theorem KBlk.later {w w' : World} {B : Nat} {L : List Ci4} (h : KBlk w B L) (k : Later w w') : KBlk w' B L := (k.block B h.lt).trans h
theorem KBlk.cell {w : World} {B : Nat} {L : List Ci4} (h : KBlk w B L) (i : Nat) : w.cell? ⟨B, i, none⟩ = (ciCells L)[i]? := by
  have := cell_of_row w B i (kA L) 60 (0, 0) h
  rw [this]; simp [kA]
theorem KBlk.frozen {w : World} {B : Nat} {L : List Ci4} (h : KBlk w B L) (i : Nat) : w.frozen? ⟨B, i, none⟩ = false := frozen_of_row w B i (kA L) 60 h
theorem one_ci (L : List Ci4) : ∀ v ∈ ciCells L, v.oneCell' = true := by
  intro v hv
  unfold ciCells at hv
  rw [List.mem_flatMap] at hv
  obtain ⟨t, _, ht⟩ := hv
  simp [ciVs] at ht
  rcases ht with rfl | rfl | rfl | rfl <;> rfl
theorem KBlk.load {w : World} {B : Nat} {L : List Ci4} (h : KBlk w B L) (hl : L.length = 4) : Sem.run Try.prog (loadCells ⟨B, 0, none⟩ 16) w = .ok (kA L) w := by
  have := run_loadCells_list (P := Try.prog) w ⟨B, 0, none⟩ (ciCells L) (fun j v hj => by rw [addr_add0, h.cell j]; exact hj)
  rw [ciCells_len, hl] at this
  exact this
theorem KBlk.store {w : World} {B : Nat} {L L' : List Ci4} (h : KBlk w B L) (hl : L.length = 4) (hl' : L'.length = 4) : Sem.run Try.prog (storeVar 60 ⟨B, 0, none⟩ (.agg (kA L'))) w = .ok () (w.setRow B (kA L')) := by
  have h1 := run_storeCells_at Try.prog B 0 60 (ciCells L') 0 (kA L) w h (by rw [kA_size hl, ciCells_len]; omega) (one_ci L')
  have e : ((kA L).toList.take (0 + 0) ++ ciCells L' ++ (kA L).toList.drop (0 + 0 + (ciCells L').length)).toArray = kA L' := by
    rw [List.drop_of_length_le (by rw [Array.length_toList, kA_size hl, ciCells_len]; omega)]
    simp [kA]
  rw [e] at h1
  unfold storeVar
  have hsz : (Value.agg (kA L')).cells.size = 16 := kA_size hl'
  simp only [Sem.run_bind, Try.sizeOf60, Result.andThen_ok, hsz]
  simpa [Value.cells, kA] using h1
theorem KBlk.set {w : World} {B : Nat} {L : List Ci4} (h : KBlk w B L) (L' : List Ci4) : KBlk (w.setRow B (kA L')) B L' := setRow_heap w B (kA L) (kA L') 60 (0, 0) h
theorem setRow_far (w : World) (B b : Nat) (c : Array Value) (h : b ≠ B) : (w.setRow B c).heap[b]? = w.heap[b]? := setRow_other w B b c h
theorem setRow_later {w0 w : World} {B : Nat} (h : Later w0 w) (hB : w0.heap.size ≤ B) (c : Array Value) : Later w0 (w.setRow B c) :=
  ⟨h.os, h.tape, h.output, by simpa [World.setRow] using h.size, fun k hk => (setRow_other w B k c (by omega)).trans (h.block k hk)⟩
theorem wpList_loadK {P : Program} (w : World) {ops : Array Oper} {rest : List Oper} {o : Oper} {a : Act} {Q : Exit → Act → World → Prop} (hg : o.guard = none) (t : TypeId) (x : Operand) (hop : o.op = Op.load t x)
    (ad : Addr) (hx : a.eval x = .pointer (some ad)) (hagg : ∀ w, (isAgg t).run P w = .ok true w) (n : Nat) (hsz : ∀ w, (sizeOf t).run P w = .ok n w) (A : Array Value) (hld : Sem.run P (loadCells ad n) w = .ok A w)
    (h : wpList P ops Q rest (a.put o.dst (.agg A)) w) : wpList P ops Q (o :: rest) a w := by
  refine wpList_plain hg fun K hK' => ?_
  unfold Oper.wp
  simp [execOp, hop, hx, Instr.loadAt, Instr.sureAddr, loadVar, hagg, hsz, hld]
  exact hK' _ _ h
theorem wpList_storeK {P : Program} (w w1 : World) {ops : Array Oper} {rest : List Oper} {o : Oper} {a : Act} {Q : Exit → Act → World → Prop} (hg : o.guard = none) (t : TypeId) (x y : Operand) (hop : o.op = Op.store t x y)
    (ad : Addr) (hx : a.eval x = .pointer (some ad)) (v : Value) (hy : a.eval y = v) (hst : Sem.run P (storeVar t ad v) w = .ok () w1)
    (h : ∀ u, wpList P ops Q rest (a.put o.dst u) w1) : wpList P ops Q (o :: rest) a w := by
  refine wpList_plain hg fun K hK' => ?_
  unfold Oper.wp
  simp [execOp, hop, hx, hy, Instr.storeAt, Instr.sureAddr, hst]
  exact hK' _ _ (h _)
end Go.Proofs.Ytljikcajfmnnmab
