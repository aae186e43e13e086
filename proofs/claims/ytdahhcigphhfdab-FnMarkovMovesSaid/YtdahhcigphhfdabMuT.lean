/- Rows of triples: the cells, equal triples, behind a sort; Go's library's Compact. -/
import Derived.Test.YtdahhcigphhfdabPathI
import Derived.Lib.SliceRun
import Derived.Sort.WalkB12
import Derived.Deep.RegionHeld3
import Derived.Shelf.SlSortCmp.WholeK
namespace Go.Proofs.Ytdahhcigphhfdab
open Go.RowKit

def noTr : Tr := (0, 0, 0)
def trV (t : Tr) : List Value := [.int .i64 t.1, .int .i64 t.2.1, .int .i64 t.2.2]
/-- '==' at two solutions. -/
theorem eqTr (x y z a b c : Int) (w : World) : (Op.equalIn 10000 106 (.agg #[.int .i64 x, .int .i64 y, .int .i64 z]) (.agg #[.int .i64 a, .int .i64 b, .int .i64 c])).run Try.prog w = .ok (x == a && (y == b && z == c)) w := by
  obtain ⟨i0, hi, hz0, hz1, hz2⟩ := info_parts Try.infoInt
  have hc : Try.prog.cellsOf 3 = 1 := by kernel_rfl
  have u3 := Try.underlying3
  have a3 := Try.isAgg3
  have z3 := Try.sizeOf3
  rw [show (10000 : Nat) = 9999 + 1 from rfl, run_equalIn_array w 9999 _ _ Try.underlying106 hi, hc, show (9999 : Nat) = 9998 + 1 from rfl]
  simp only [List.range_succ, List.range_zero, List.nil_append, List.cons_append]
  simp only [Op.eqItems]
  go_simp
  by_cases h1 : x = a <;> by_cases h2 : y = b <;> by_cases h3 : z = c <;> simp [h1, h2, h3]
theorem trCells_set (L : List Tr) (k : Nat) (h : k < L.length) (p q r : Int) : (((trCells L).set (k * 3) (.int .i64 p)).set (k * 3 + 1) (.int .i64 q)).set (k * 3 + 2) (.int .i64 r) = trCells (L.set k (p, q, r)) := by
  induction L generalizing k with
  | nil => simp at h
  | cons t L ih =>
    cases k with
    | zero => simp [trCells]
    | succ k =>
      have := ih k (by simpa using h)
      rw [show (k + 1) * 3 = k * 3 + 3 by omega, show k * 3 + 3 + 1 = (k * 3 + 1) + 3 by omega, show k * 3 + 3 + 2 = (k * 3 + 2) + 3 by omega]
      simp only [List.set_cons_succ]
      rw [show trCells (t :: L) = .int .i64 t.1 :: .int .i64 t.2.1 :: .int .i64 t.2.2 :: trCells L by simp [trCells]]
      rw [show trCells (t :: L.set k (p, q, r)) = .int .i64 t.1 :: .int .i64 t.2.1 :: .int .i64 t.2.2 :: trCells (L.set k (p, q, r)) by simp [trCells]]
      rw [← this]
      simp only [List.set_cons_succ]
theorem OwnTris.put {lo : Nat} {w : World} {g cap : Nat} {L : List Tr} (h : OwnTris lo w (.slice (some ⟨g, 0, none⟩) L.length cap) L) (k : Nat) (hk : k < L.length) (p q r : Int) :
    OwnTris lo (((w.setCell ⟨g, k * 3, none⟩ (.int .i64 p)).setCell ⟨g, k * 3 + 1, none⟩ (.int .i64 q)).setCell ⟨g, k * 3 + 2, none⟩ (.int .i64 r)) (.slice (some ⟨g, 0, none⟩) L.length cap) (L.set k (p, q, r)) := by
  have h1 := (World.ownsRow.stored h (k * 3) (.int .i64 p)).1
  have h2 := (World.ownsRow.stored h1 (k * 3 + 1) (.int .i64 q)).1
  have h3 := (World.ownsRow.stored h2 (k * 3 + 2) (.int .i64 r)).1
  unfold OwnTris
  rw [List.length_set, ← trCells_set L k hk]
  exact h3
theorem OwnTris.openAt {lo : Nat} {w : World} {g cap n : Nat} {L : List Tr} (h : OwnTris lo w (.slice (some ⟨g, 0, none⟩) n cap) L) (hn : L.length = n) (k : Nat) (hk : k < n) :
    (∃ m0 m1 m2, w.cell? ⟨g, k * 3, none⟩ = some m0 ∧ w.cell? ⟨g, k * 3 + 1, none⟩ = some m1 ∧ w.cell? ⟨g, k * 3 + 2, none⟩ = some m2) ∧
    w.frozen? ⟨g, k * 3, none⟩ = false ∧ w.frozen? ⟨g, k * 3 + 1, none⟩ = false ∧ w.frozen? ⟨g, k * 3 + 2, none⟩ = false := by
  subst hn
  have hat := trCells_at L k hk
  have h' : w.ownsRow lo 106 3 (.slice (some ⟨g, 0, none⟩) L.length cap) L.length (trCells L) := h
  exact ⟨⟨_, _, _, (h'.cellAt (k * 3) (by omega)).trans hat.1, (h'.cellAt (k * 3 + 1) (by omega)).trans hat.2.1, (h'.cellAt (k * 3 + 2) (by omega)).trans hat.2.2⟩,
    h'.frozenAt _, h'.frozenAt _, h'.frozenAt _⟩
open Go.Sort in
theorem flat_trs (L : List Tr) : (flatK trV 3 L.toArray).toList = trCells L := by
  apply List.ext_getElem?
  intro t
  by_cases ht : t < L.length * 3
  · have hi : t / 3 < L.length := by omega
    have hat := trCells_at L (t / 3) hi
    have h4 : t % 3 = 0 ∨ t % 3 = 1 ∨ t % 3 = 2 := by omega
    have e1 : (flatK trV 3 L.toArray).toList[t]? = some ((trV L[t / 3])[t % 3]!) := by
      rw [Array.getElem?_toList, Array.getElem?_eq_getElem (by simpa using ht)]
      simp [flatK, hi]
    rw [e1]
    generalize L[t / 3] = x at hat
    rcases h4 with h | h | h
    · rw [show t / 3 * 3 = t by omega] at hat; rw [h, hat.1]; rfl
    · rw [show t / 3 * 3 + 1 = t by omega] at hat; rw [h, hat.2.1]; rfl
    · rw [show t / 3 * 3 + 2 = t by omega] at hat; rw [h, hat.2.2]; rfl
  · rw [List.getElem?_eq_none (by simpa using ht), List.getElem?_eq_none (by rw [trCells_len]; omega)]
open Go.Sort in
theorem OwnTris.holds {lo : Nat} {w : World} {g cap : Nat} {L : List Tr} (h : OwnTris lo w (.slice (some ⟨g, 0, none⟩) L.length cap) L) : HoldsK trV 3 w g 0 L.toArray := by
  intro j hj
  have hj' : j < L.length * 3 := by simpa using hj
  have h' : w.ownsRow lo 106 3 (.slice (some ⟨g, 0, none⟩) L.length cap) L.length (trCells L) := h
  refine ⟨?_, by rw [Nat.zero_add]; exact h'.frozenAt j⟩
  rw [Nat.zero_add, h'.cellAt j hj', ← flat_trs, Array.getElem?_toList, Array.getElem?_eq_getElem (by simpa using hj)]
  show some _ = some ((flatK trV 3 L.toArray)[j]!)
  rw [getElem!_pos (flatK trV 3 L.toArray) j hj]
open Go.Sort in
/-- behind a contract in the sort's words -/
theorem OwnTris.putK {lo : Nat} {w : World} {g cap q : Nat} {L M : List Tr} (h : OwnTris lo w (.slice (some ⟨g, 0, none⟩) L.length cap) L) (hl : M.length = L.length) :
    OwnTris lo (putRowK trV 3 (Sort.ahead w q) g 0 M.toArray) (.slice (some ⟨g, 0, none⟩) L.length cap) M ∧ w.grownBy (putRowK trV 3 (Sort.ahead w q) g 0 M.toArray) (some g) := by
  refine ⟨?_, rfl, rfl, rfl, by simp [putRowK, putRow, mapBlock, Sort.ahead], fun k hk hne => ?_⟩
  · rcases h.2 with ⟨e0, _⟩ | ⟨g', cap', cur, e0, hb, hg, hn, hm, hs, ht⟩
    · cases e0
    · injection e0 with e1 _ e3
      injection e1 with e1
      injection e1 with e1
      subst e1; subst e3
      unfold OwnTris
      rw [hl]
      refine ⟨by rw [trCells_len, hl], .inr ⟨g, cap, putCells id 0 (flatK trV 3 M.toArray) cur, rfl, hb, ?_, hn, hm, by simpa [putCells] using hs, ?_⟩⟩
      · simp [putRowK, putRow, mapBlock, Sort.ahead, Array.getElem?_modify, hg, onCells]
      · rw [← flat_trs]
        apply List.ext_getElem?
        intro j
        rw [List.getElem?_take, Array.getElem?_toList, Array.getElem?_toList]
        by_cases hj : j < L.length * 3
        · have hjc : j < cur.size := by omega
          have hjf : j < (flatK trV 3 M.toArray).size := by simp [hl]; exact hj
          simp only [if_pos hj, putCells, Array.getElem?_mapIdx, Array.getElem?_eq_getElem hjc, Option.map_some]
          rw [if_pos (by omega), Array.getElem?_eq_getElem hjf]
          simp only [Nat.sub_zero, id]
          rw [getElem!_pos (flatK trV 3 M.toArray) j hjf]
        · rw [if_neg hj, Array.getElem?_eq_none (by simp [hl]; omega)]
  · have : g ≠ k := fun e => hne (by rw [e])
    simp [putRowK, putRow, mapBlock, Sort.ahead, Array.getElem?_modify, this]
/-- The four cells of a solution in a row. -/
theorem OwnTris.threeAt {lo : Nat} {w : World} {g cap n : Nat} {L : List Tr} (h : OwnTris lo w (.slice (some ⟨g, 0, none⟩) n cap) L) (hn : L.length = n) (k : Nat) (hk : k < n) :
    w.cell? ⟨g, k * 3, none⟩ = some (.int .i64 (L.getD k noTr).1) ∧ w.cell? ⟨g, k * 3 + 1, none⟩ = some (.int .i64 (L.getD k noTr).2.1) ∧ w.cell? ⟨g, k * 3 + 2, none⟩ = some (.int .i64 (L.getD k noTr).2.2) := by
  subst hn
  have hat := trCells_at L k hk
  have h' : w.ownsRow lo 106 3 (.slice (some ⟨g, 0, none⟩) L.length cap) L.length (trCells L) := h
  rw [show L.getD k noTr = L[k] by simp [hk]]
  exact ⟨(h'.cellAt (k * 3) (by omega)).trans hat.1, (h'.cellAt (k * 3 + 1) (by omega)).trans hat.2.1, (h'.cellAt (k * 3 + 2) (by omega)).trans hat.2.2⟩
theorem ownsRow_setCellsT {lo : Nat} {e : TypeId} {sz g n cap : Nat} (vs : List Value) : ∀ (o : Nat) (w : World) (xs : List Value), w.ownsRow lo e sz (.slice (some ⟨g, 0, none⟩) n cap) n xs →
    ∃ ys, (w.setCells g o vs).ownsRow lo e sz (.slice (some ⟨g, 0, none⟩) n cap) n ys ∧ ys.take o = xs.take o ∧ w.grownBy (w.setCells g o vs) (some g) := by
  induction vs with
  | nil => intro o w xs h; exact ⟨xs, h, rfl, rfl, rfl, rfl, Nat.le_refl _, fun k _ _ => rfl⟩
  | cons v vs ih =>
    intro o w xs h
    obtain ⟨h1, h2⟩ := h.stored o v
    obtain ⟨ys, h3, h4, h5⟩ := ih (o + 1) _ _ h1
    refine ⟨ys, h3, ?_, ?_⟩
    · have e : ys.take o = (ys.take (o + 1)).take o := by rw [List.take_take, Nat.min_eq_left (by omega)]
      rw [e, h4, List.take_take, Nat.min_eq_left (by omega), List.take_set_of_le (Nat.le_refl _)]
    · refine ⟨h5.os.trans h2.os, h5.tape.trans h2.tape, h5.output.trans h2.output, Nat.le_trans h2.size h5.size, fun k hk hne => ?_⟩
      exact (h5.block k (Nat.lt_of_lt_of_le hk h2.size) hne).trans (h2.block k hk hne)
theorem OwnTris.cut {lo : Nat} {w : World} {g n cap : Nat} {xs : List Value} {M : List Tr} (h : w.ownsRow lo 106 3 (.slice (some ⟨g, 0, none⟩) n cap) n xs) (i : Nat) (hi : i ≤ n) (hM : M.length = i) (hx : xs.take (i * 3) = trCells M) :
    OwnTris lo w (.slice (some ⟨g, 0, none⟩) i cap) M := by
  subst hM
  rcases h.2 with ⟨e0, _⟩ | ⟨g', cap', cur, e0, hb, hg, hn, hm, hs, ht⟩
  · cases e0
  · injection e0 with e1 _ e3
    injection e1 with e1
    injection e1 with e1
    subst e1; subst e3
    refine ⟨trCells_len M, .inr ⟨g, cap, cur, rfl, hb, hg, by omega, hm, hs, ?_⟩⟩
    rw [← hx, ← ht, List.take_take, Nat.min_eq_left (Nat.mul_le_mul_right 3 hi)]
theorem zero_trs (n : Nat) : (Builtin.zeroCells #[Value.int .i64 0, .int .i64 0, .int .i64 0] n).toList = List.replicate (n * 3) (.int .i64 0) := by
  apply List.ext_getElem
  · simp [Builtin.zeroCells]
  · intro i h1 h2
    have h4 : i % 3 = 0 ∨ i % 3 = 1 ∨ i % 3 = 2 := by omega
    simp [Builtin.zeroCells]
    rcases h4 with h | h | h <;> simp [h]
theorem run_clear_tr (w : World) (ty : TypeId) (b o n c : Nat) (hn : 0 < n)
    (hc : ∀ j, j < n * 3 → (w.cell? ⟨b, o + j, none⟩).isSome = true) (hf : ∀ j, j < n * 3 → w.frozen? ⟨b, o + j, none⟩ = false) :
    (Builtin.clear_ #[108] ty #[.slice (some ⟨b, o, none⟩) n c]).run Try.prog w = .ok (.tuple #[]) (w.setCells b o (List.replicate (n * 3) (.int .i64 0))) := by
  have hv := Try.zeroValue106
  have hst := run_storeCells_cells (P := Try.prog) b o (List.replicate (n * 3) (Value.int .i64 0)) 0 w (by simpa using hc) (by simpa using hf) (by intro v hv'; rw [List.eq_of_mem_replicate hv']; rfl)
  simp only [Nat.add_zero] at hst
  obtain ⟨m, rfl⟩ : ∃ m, n = m + 1 := ⟨n - 1, by omega⟩
  have hz := zero_trs (m + 1)
  simp [Builtin.clear_, run_underlying Try.underlying108, hv, Value.cells]
  rw [hz, hst]
  rfl
theorem take_snocT (L : List Tr) (k : Nat) (h : k < L.length) : L.take (k + 1) = L.take k ++ [L.getD k noTr] := by
  rw [List.take_add_one, List.getD_eq_getElem?_getD, List.getElem?_eq_getElem h]; rfl
theorem drop_atT {K L : List Tr} {j : Nat} (h : K.drop j = L.drop j) : K.getD j noTr = L.getD j noTr := by
  have h1 : (K.drop j)[0]? = (L.drop j)[0]? := by rw [h]
  rw [List.getElem?_drop, List.getElem?_drop, Nat.add_zero] at h1
  rw [List.getD_eq_getElem?_getD, List.getD_eq_getElem?_getD, h1]
theorem drop_succT {K L : List Tr} {j : Nat} (h : K.drop j = L.drop j) : K.drop (j + 1) = L.drop (j + 1) := by
  have : ∀ X : List Tr, X.drop (j + 1) = (X.drop j).drop 1 := fun X => by rw [List.drop_drop]
  rw [this, this, h]

theorem set3_laterT {w0 w : World} {B : Nat} (h : Later w0 w) (hB : w0.heap.size ≤ B) (k : Nat) (p q r : Int) :
    Later w0 (((w.setCell ⟨B, k * 3, none⟩ (.int .i64 p)).setCell ⟨B, k * 3 + 1, none⟩ (.int .i64 q)).setCell ⟨B, k * 3 + 2, none⟩ (.int .i64 r)) :=
  Below.setCell (Below.setCell (Below.setCell h hB _) hB _) hB _
/-- The first k of a row without what is equal to the one ahead of it. -/
def compR (L : List Tr) : Nat → List Tr
  | 0 => []
  | k + 1 => compR L k ++ (if k = 0 ∨ L.getD k noTr ≠ L.getD (k - 1) noTr then [L.getD k noTr] else [])
theorem compR_le (L : List Tr) (k : Nat) : (compR L k).length ≤ k := by
  induction k with
  | zero => simp [compR]
  | succ k ih => unfold compR; rw [List.length_append]; split <;> simp <;> omega
theorem compR_keep {L : List Tr} {j : Nat} (h : L.getD (j + 1) noTr ≠ L.getD j noTr) : compR L (j + 2) = compR L (j + 1) ++ [L.getD (j + 1) noTr] := by
  show compR L (j + 1) ++ _ = _
  rw [if_pos (.inr h)]
theorem compR_drop {L : List Tr} {j : Nat} (h : L.getD (j + 1) noTr = L.getD j noTr) : compR L (j + 2) = compR L (j + 1) := by
  show compR L (j + 1) ++ _ = _
  rw [if_neg (by rw [h]; simp), List.append_nil]
theorem threeForm {lo : Nat} {w : World} {g cap n : Nat} {L : List Tr} (h : OwnTris lo w (.slice (some ⟨g, 0, none⟩) n cap) L) (hn : L.length = n) (a q : Nat) (hk : a + q < n) :
    w.cell? ⟨g, a * 3 + q * 3, none⟩ = some (.int .i64 (L.getD (a + q) noTr).1) ∧ w.cell? ⟨g, a * 3 + q * 3 + 1, none⟩ = some (.int .i64 (L.getD (a + q) noTr).2.1) ∧ w.cell? ⟨g, a * 3 + q * 3 + 2, none⟩ = some (.int .i64 (L.getD (a + q) noTr).2.2) := by
  rw [← Nat.add_mul]
  exact h.threeAt hn (a + q) hk
theorem cut_atT {lo : Nat} {w w0 : World} {b n cap : Nat} {K M : List Tr} (ho : OwnTris lo w (.slice (some ⟨b, 0, none⟩) n cap) K) (hl : K.length = n) (hlo : w0.heap.size ≤ lo) (hL : Later w0 w) (i : Nat) (hi : i < n) (hM : K.take i = M) :
    (∀ ty, (Builtin.clear_ #[108] ty #[.slice (some ⟨b, i * 3, none⟩) (n - i) (cap - i)]).run Try.prog w = .ok (.tuple #[]) (w.setCells b (i * 3) (List.replicate ((n - i) * 3) (.int .i64 0)))) ∧
    OwnTris lo (w.setCells b (i * 3) (List.replicate ((n - i) * 3) (.int .i64 0))) (.slice (some ⟨b, 0, none⟩) i cap) M ∧ Later w0 (w.setCells b (i * 3) (List.replicate ((n - i) * 3) (.int .i64 0))) ∧ n ≤ cap ∧ M.length = i := by
  have ho' : w.ownsRow lo 106 3 (.slice (some ⟨b, 0, none⟩) n cap) n (trCells K) := by have h := ho; unfold OwnTris at h; rw [hl] at h; exact h
  have hcap : n ≤ cap := by
    obtain ⟨_, _, e, hle⟩ := ho.shape
    simp only [Value.slice.injEq] at e
    rw [e.2.2, ← hl]; exact hle
  have hMl : M.length = i := by rw [← hM, List.length_take, hl]; omega
  obtain ⟨ys, hys1, hys2, hys3⟩ := ownsRow_setCellsT (List.replicate ((n - i) * 3) (Value.int .i64 0)) (i * 3) w (trCells K) ho'
  refine ⟨fun ty => run_clear_tr w ty b (i * 3) (n - i) (cap - i) (by omega) (fun t ht => by
    rw [ho'.cellAt (i * 3 + t) (by omega), List.getElem?_eq_getElem (by rw [trCells_len, hl]; omega)]; rfl) (fun t _ => ho'.frozenAt _), ?_, ?_, hcap, hMl⟩
  · refine OwnTris.cut hys1 i (by omega) hMl ?_
    rw [hys2, ← hM]
    have e : trCells K = trCells (K.take i) ++ trCells (K.drop i) := by unfold trCells; rw [← List.flatMap_append, List.take_append_drop]
    rw [e, List.take_append_of_le_length (by rw [trCells_len, List.length_take, hl]; omega), List.take_of_length_le (by rw [trCells_len, List.length_take, hl]; omega)]
  · exact hL.grown hys3 hL.size (fun b' hb' => by have e := Option.some.inj hb'; subst e; exact Nat.le_trans hlo (ho.lt b rfl).1)

set_option maxRecDepth 20000 in
set_option maxHeartbeats 8000000 in
theorem compactT_any {lo : Nat} (w0 : World) (b cap : Nat) (L : List Tr) (w : World) (hL0 : Later w0 w) (hlo : w0.heap.size ≤ lo) (hb : L.length ≤ 1000000) (h : OwnTris lo w (.slice (some ⟨b, 0, none⟩) L.length cap) L) :
    Calls Try.prog 116 #[.slice (some ⟨b, 0, none⟩) L.length cap] w fun e w' => e = .returned (.slice (some ⟨b, 0, none⟩) (compR L L.length).length cap) ∧ OwnTris lo w' (.slice (some ⟨b, 0, none⟩) (compR L L.length).length cap) (compR L L.length) ∧ Later w0 w' := by
  have H := hid h
  have HL0 := hid hL0
  have HLO := hid hlo
  obtain ⟨M, hM⟩ : ∃ M, compR L L.length = M := ⟨_, rfl⟩
  have HM := hid hM
  rw [hM]
  obtain ⟨n, hn⟩ : ∃ n, L.length = n := ⟨_, rfl⟩
  have HN := hid hn
  rw [hn] at H hb HM ⊢
  have hcap : n ≤ cap := by
    obtain ⟨_, _, e, hle⟩ := H.out.shape
    simp only [Value.slice.injEq] at e
    rw [e.2.2, ← HN.out]; exact hle
  clear h hL0 hlo hn hM
  by_cases h2 : n < 2
  · have hd : decide ((n : Int) < 2) = true := decide_eq_true (by omega)
    have HE := hid (show M = L by
      rw [← HM.out]
      have h01 : n = 0 ∨ n = 1 := by omega
      rcases h01 with rfl | rfl
      · rw [List.eq_nil_of_length_eq_zero HN.out]; rfl
      · obtain ⟨x, rfl⟩ := List.length_eq_one_iff.1 HN.out; rfl)
    have HEN := hid (show M.length = n by rw [HE.out]; exact HN.out)
    go_enter Try.func116, Try.ntmps116
    go_wp2_with fail
    go_ret
    exact ⟨by rw [HEN.out]; rfl, by rw [HEN.out, HE.out]; exact H.out, HL0.out⟩
  · have hd : decide ((n : Int) < 2) = false := decide_eq_false (by omega)
    go_enter Try.func116, Try.ntmps116
    go_wp2_with fail
    go_loopw [3] (fun k wr => ∃ j : Nat, j + 1 ≤ n ∧ k = .int .i64 ((j : Int) + 1) ∧ compR L (j + 1) = L.take (j + 1) ∧ OwnTris lo wr (.slice (some ⟨b, 0, none⟩) n cap) L ∧ Later w0 wr) (fun k _ => n - (intOf k).toNat)
    case atStart => exact ⟨0, by omega, by simp, by rw [show L.take (0 + 1) = L.take 0 ++ [L.getD 0 noTr] from take_snocT L 0 (by rw [HN.out]; omega)]; rfl, H.out, HL0.out⟩
    case round =>
      obtain ⟨j, hj, rfl, hpre, hO, hL⟩ := hrel
      have HP := hid hpre
      have HO := hid hO
      have HL := hid hL
      by_cases hlt : j + 1 < n
      · have hltI : (j : Int) + 1 < (n : Int) := by omega
        obtain ⟨c0, c1, c2⟩ := hO.threeAt HN.out j (by omega)
        obtain ⟨d0, d1, d2⟩ := hO.threeAt HN.out (j + 1) hlt
        have HKP := hid (fun h => compR_keep (L := L) (j := j) h)
        have HDR := hid (fun h => compR_drop (L := L) (j := j) h)
        have HSN := hid (take_snocT L (j + 1) (by rw [HN.out]; exact hlt))
        obtain ⟨s, hs⟩ : ∃ s, L.getD j noTr = s := ⟨_, rfl⟩
        obtain ⟨u, hu⟩ : ∃ u, L.getD (j + 1) noTr = u := ⟨_, rfl⟩
        rw [hs] at c0 c1 c2 HKP HDR
        rw [hu] at d0 d1 d2 HKP HDR HSN
        obtain ⟨x, y, z⟩ := s
        obtain ⟨p, q, r⟩ := u
        simp only at c0 c1 c2 d0 d1 d2
        have heq := eqTr p q r x y z
        have j1 : IntKind.i64.wrap ((j : Int) + 1 - 1) = (j : Int) := by rw [IntWalk.i64_left]; rw [IntWalk.wrap64_in _ (by omega)]; omega
        have j2 : ((j : Int) + 1).toNat = j + 1 := by omega
        have j3 : (0 : Int) ≤ (j : Int) + 1 := by omega
        have j4 : (j : Int) < (n : Int) := by omega
        have j5 : (0 : Int) ≤ (j : Int) := by omega
        have HJI := hid hj
        clear hpre hO hL hs hu
        by_cases he : (p, q, r) = (x, y, z)
        · have hbe : (p == x && (q == y && r == z)) = true := by simp only [Prod.mk.injEq] at he; simp [he]
          rw [hbe] at heq
          have HE := hid (HDR.out he)
          clear hbe he
          go_wp2_with fail
          go_quiet (fail)
          have HL2 := hid (HL.out.trans (Later.drewN wr nq))
          have HO2 := hid (HO.out.later (Later.drewN wr nq))
          generalize wr.drewN nq = wd at HL2 HO2 ⊢
          clear c0 c1 c2 d0 d1 d2 heq j1 HKP HDR HSN
          obtain ⟨A, hA⟩ : ∃ A, j + 1 = A := ⟨_, rfl⟩
          have hAI : (j : Int) + 1 = (A : Int) := by omega
          have hAn : A < n := by omega
          have hAnI : (A : Int) ≤ (n : Int) := by omega
          have hA2 : A < cap := by omega
          have hAcI : (A : Int) ≤ (cap : Int) := by omega
          have hncI : (n : Int) ≤ (cap : Int) := by omega
          have hne : ¬ cap = A := by omega
          have HST := hid (show L.take A = compR L (A + 0 + 1) by rw [← hA]; exact (HE.out.trans HP.out).symm)
          rw [hAI]
          have hA1 : 1 ≤ A := by omega
          clear j2 j3 j4 j5 hltI hlt HP HE HO HL hA hAI HJI hj
          go_wp2_with fail
          go_loopw [3, 5] (fun s3 s5 wr => ∃ (i q : Nat) (K : List Tr), s3 = .int .i64 i ∧ s5 = .int .i64 ((q : Int) + 1) ∧ A + q + 1 ≤ n ∧ i ≤ A + q ∧ K.length = n ∧ K.take i = compR L (A + q + 1) ∧ K.drop (A + q) = L.drop (A + q) ∧ OwnTris lo wr (.slice (some ⟨b, 0, none⟩) n cap) K ∧ Later w0 wr) (fun _ s5 _ => n - (intOf s5).toNat)
          case atStart => exact ⟨A, 0, L, rfl, by simp, by omega, by omega, HN.out, HST.out, rfl, HO2.out, HL2.out⟩
          case round =>
            clear HO2 HL2 HST
            obtain ⟨i, q', K, rfl, rfl, hq, hiq, hKl, hKt, hKd, hO, hL⟩ := hrel
            have HO := hid hO
            have HL := hid hL
            have HKL := hid hKl
            have HKT := hid hKt
            have HKD := hid hKd
            clear hKt hKd hL hKl
            by_cases hlt : A + q' + 1 < n
            · obtain ⟨c0, c1, c2⟩ := threeForm hO HKL.out A q' (by omega)
              obtain ⟨d0, d1, d2⟩ := threeForm hO HKL.out A (q' + 1) (by omega)
              rw [show A + (q' + 1) = A + q' + 1 by omega] at d0 d1 d2
              rw [drop_atT HKD.out] at c0 c1 c2
              rw [drop_atT (drop_succT HKD.out)] at d0 d1 d2
              have HKP := hid (fun h => compR_keep (L := L) (j := A + q') h)
              have HDR := hid (fun h => compR_drop (L := L) (j := A + q') h)
              obtain ⟨s, hs⟩ : ∃ s, L.getD (A + q') noTr = s := ⟨_, rfl⟩
              obtain ⟨u, hu⟩ : ∃ u, L.getD (A + q' + 1) noTr = u := ⟨_, rfl⟩
              rw [hs] at c0 c1 c2 HKP HDR
              rw [hu] at d0 d1 d2 HKP HDR
              clear hs hu
              obtain ⟨x, y, z⟩ := s
              obtain ⟨p, q, r⟩ := u
              simp only at c0 c1 c2 d0 d1 d2
              have heq := eqTr p q r x y z
              have j1 : IntKind.i64.wrap ((q' : Int) + 1 - 1) = (q' : Int) := by rw [IntWalk.i64_left]; rw [IntWalk.wrap64_in _ (by omega)]; omega
              have j2 : ((q' : Int) + 1).toNat = q' + 1 := by omega
              have j3 : (0 : Int) ≤ (q' : Int) + 1 := by omega
              have hltN : q' + 1 < n - A := by omega
              have hltI : (q' : Int) + 1 < ((n - A : Nat) : Int) := by omega
              have j4 : (q' : Int) < ((n - A : Nat) : Int) := by omega
              have j5 : (0 : Int) ≤ (q' : Int) := by omega
              obtain ⟨⟨m0, m1, m2, e0, e1, e2⟩, g0, g1, g2⟩ := hO.openAt HKL.out i (by omega)
              have hin : (i : Int) < (n : Int) := by omega
              have hi0 : (0 : Int) ≤ (i : Int) := by omega
              by_cases he : (p, q, r) = (x, y, z)
              · have hbe : (p == x && (q == y && r == z)) = true := by simp only [Prod.mk.injEq] at he; simp [he]
                rw [hbe] at heq
                have HE := hid (HDR.out he)
                clear hbe he hO
                go_wp2_with fail
                go_quiet (fail)
                have HL2 := hid (HL.out.trans (Later.drewN wr nq))
                have HO2 := hid (HO.out.later (Later.drewN wr nq))
                generalize wr.drewN nq = wd at HL2 HO2 ⊢
                clear j1 heq
                go_wp2_with fail
                go_roundw
                case rel => exact ⟨i, q' + 1, K, rfl, by go_num, hlt, by omega, HKL.out, by rw [show A + (q' + 1) + 1 = A + q' + 2 by omega, HE.out]; exact HKT.out, drop_succT HKD.out, HO2.out, HL2.out⟩
                case measure => simp [intOf]; omega
              · have hbe : (p == x && (q == y && r == z)) = false := by
                  cases hb2 : (p == x && (q == y && r == z))
                  · rfl
                  · exfalso; apply he; simp at hb2; simp [hb2]
                rw [hbe] at heq
                have HE := hid (HKP.out he)
                have HX := hid (show (trCells K).length = (trCells K).length from rfl)
                clear hbe he hO
                go_wp2_with fail
                go_quiet (fail)
                have hLd := Later.drewN wr nq
                have HL2 := hid (HL.out.trans hLd)
                have HO2 := hid (HO.out.later hLd)
                replace d0 := hLd.cell d0
                replace d1 := hLd.cell d1
                replace d2 := hLd.cell d2
                replace g0 := hLd.frozen e0 g0
                replace g1 := hLd.frozen e1 g1
                replace g2 := hLd.frozen e2 g2
                replace e0 := hLd.cell e0
                replace e1 := hLd.cell e1
                replace e2 := hLd.cell e2
                clear c0 c1 c2
                generalize wr.drewN nq = wd at HL2 HO2 d0 d1 d2 e0 e1 e2 g0 g1 g2 ⊢
                clear j1 heq hLd
                go_wp2_with fail
                have h1 : OwnTris lo wd (.slice (some ⟨b, 0, none⟩) K.length cap) K := by rw [HKL.out]; exact HO2.out
                have h2' := h1.put i (by rw [HKL.out]; omega) p q r
                rw [HKL.out] at h2'
                have HO3 := hid h2'
                have HL3 := hid (set3_laterT HL2.out (Nat.le_trans HLO.out (HO2.out.lt b rfl).1) i p q r)
                clear h1 h2'
                go_roundw
                case rel => exact ⟨i + 1, q' + 1, K.set i (p, q, r), by go_num, by go_num, hlt, by omega, by rw [List.length_set]; exact HKL.out, by
                  rw [show A + (q' + 1) + 1 = A + q' + 2 by omega, HE.out, ← HKT.out, List.take_set, take_snocT K i (by rw [HKL.out]; omega)]
                  rw [List.set_append_right _ _ (by rw [List.length_take]; omega), List.length_take, Nat.min_eq_left (by rw [HKL.out]; omega), Nat.sub_self]; rfl, by
                  rw [List.drop_set_of_lt (by omega)]; exact drop_succT HKD.out, HO3.out, HL3.out⟩
                case measure => simp [intOf]; omega
            · have hJ : A + q' + 1 = n := by omega
              have hin2 : i < n := by omega
              obtain ⟨hcl, hcut, hlf, hcap2, hml⟩ := cut_atT (M := M) HO.out HKL.out HLO.out HL.out i hin2 (by rw [HKT.out, hJ]; exact HM.out)
              have HCUT := hid hcut
              have HLF := hid hlf
              have HML := hid hml
              have hq2 : ¬ (q' : Int) + 1 < ((n - A : Nat) : Int) := by omega
              have hiI : (i : Int) ≤ (n : Int) := by omega
              have hicI : (i : Int) ≤ (cap : Int) := by omega
              have hnci : ¬ cap = i := by omega
              clear hO hcut hlf hml hJ
              go_wp2_with fail
              go_ret
              exact ⟨by rw [HML.out]; rfl, by rw [HML.out]; exact HCUT.out, HLF.out⟩
        · have hbe : (p == x && (q == y && r == z)) = false := by
            cases hb2 : (p == x && (q == y && r == z))
            · rfl
            · exfalso; apply he; simp at hb2; simp [hb2]
          rw [hbe] at heq
          have HE := hid (HKP.out he)
          clear hbe he
          go_wp2_with fail
          go_quiet (fail)
          have HL2 := hid (HL.out.trans (Later.drewN wr nq))
          have HO2 := hid (HO.out.later (Later.drewN wr nq))
          generalize wr.drewN nq = wd at HL2 HO2 ⊢
          clear j1 heq
          go_wp2_with fail
          go_roundw
          case rel => exact ⟨j + 1, hlt, by go_num, by rw [HE.out, HP.out, HSN.out], HO2.out, HL2.out⟩
          case measure => simp [intOf]; omega
      · have hjn : j + 1 = n := by omega
        have hjI : ¬ (j : Int) + 1 < (n : Int) := by omega
        have HE := hid (show M = L by rw [← HM.out, ← hjn, HP.out]; exact List.take_of_length_le (by rw [HN.out]; omega))
        have HEN := hid (show M.length = n by rw [HE.out]; exact HN.out)
        clear hpre hO hL hjn
        go_wp2_with fail
        go_ret
        exact ⟨by rw [HEN.out]; rfl, by rw [HEN.out, HE.out]; exact HO.out, HL.out⟩
end Go.Proofs.Ytdahhcigphhfdab
