/- Rows of solutions: equal solutions, Go's library's search and turning over. -/
import Derived.Test.YtoaopmafokoaoaaHuNb
import Derived.Test.YtoaopmafokoaoaaHuHT
import Derived.Test.YtoaopmafokoaoaaLayIR
namespace Go.Proofs.Ytoaopmafokoaoaa
open Go.RowKit

/-- '==' at two solutions. -/
theorem eqSo (x y z t a b c d : Int) (w : World) : (Op.equalIn 10000 69 (.agg #[.int .i64 x, .int .i64 y, .int .i64 z, .int .i64 t]) (.agg #[.int .i64 a, .int .i64 b, .int .i64 c, .int .i64 d])).run Try.prog w = .ok (x == a && (y == b && (z == c && t == d))) w := by
  obtain ⟨i0, hi, hz0, hz1, hz2⟩ := info_parts Try.infoInt
  have hc : Try.prog.cellsOf 3 = 1 := by kernel_rfl
  have u3 := Try.underlying3
  have a3 := Try.isAgg3
  have z3 := Try.sizeOf3
  rw [show (10000 : Nat) = 9999 + 1 from rfl, run_equalIn_array w 9999 _ _ Try.underlying69 hi, hc, show (9999 : Nat) = 9998 + 1 from rfl]
  simp only [List.range_succ, List.range_zero, List.nil_append, List.cons_append]
  simp only [Op.eqItems]
  go_simp
  by_cases h1 : x = a <;> by_cases h2 : y = b <;> by_cases h3 : z = c <;> by_cases h4 : t = d <;> simp [h1, h2, h3, h4]
theorem eqlSo : EqlAt Try.prog 69 (fun s : So => .agg (soV s).toArray) (fun s u => decide (s = u)) := by
  refine ⟨fun s u w => ?_, GuardAt.agg (fun s : So => (soV s).toArray) (by kernel_rfl)⟩
  obtain ⟨x, y, z, t⟩ := s
  obtain ⟨a, b, c, d⟩ := u
  have h := eqSo x y z t a b c d w
  simp only [binOp, Op.equal, soV]
  simp
  rw [show Op.maxDepth = 10000 from rfl, h]
  simp [Result.andThen]
  rfl
open Go.Sort in
theorem flat_sols (L : List So) : (flatK soV 4 L.toArray).toList = soCells L := by
  apply List.ext_getElem?
  intro t
  by_cases ht : t < L.length * 4
  · have hi : t / 4 < L.length := by omega
    have hat := soCells_at L (t / 4) hi
    have h4 : t % 4 = 0 ∨ t % 4 = 1 ∨ t % 4 = 2 ∨ t % 4 = 3 := by omega
    have e1 : (flatK soV 4 L.toArray).toList[t]? = some ((soV L[t / 4])[t % 4]!) := by
      rw [Array.getElem?_toList, Array.getElem?_eq_getElem (by simpa using ht)]
      simp [flatK, hi]
    rw [e1]
    generalize L[t / 4] = x at hat
    rcases h4 with h | h | h | h
    · rw [show t / 4 * 4 = t by omega] at hat; rw [h, hat.1]; rfl
    · rw [show t / 4 * 4 + 1 = t by omega] at hat; rw [h, hat.2.1]; rfl
    · rw [show t / 4 * 4 + 2 = t by omega] at hat; rw [h, hat.2.2.1]; rfl
    · rw [show t / 4 * 4 + 3 = t by omega] at hat; rw [h, hat.2.2.2]; rfl
  · rw [List.getElem?_eq_none (by simpa using ht), List.getElem?_eq_none (by rw [soCells_len]; omega)]
open Go.Sort in
theorem OwnSols.holds {lo : Nat} {w : World} {g cap : Nat} {L : List So} (h : OwnSols lo w (.slice (some ⟨g, 0, none⟩) L.length cap) L) : HoldsK soV 4 w g 0 L.toArray := by
  intro j hj
  have hj' : j < L.length * 4 := by simpa using hj
  have h' : w.ownsRow lo 69 4 (.slice (some ⟨g, 0, none⟩) L.length cap) L.length (soCells L) := h
  refine ⟨?_, by rw [Nat.zero_add]; exact h'.frozenAt j⟩
  rw [Nat.zero_add, h'.cellAt j hj', ← flat_sols, Array.getElem?_toList, Array.getElem?_eq_getElem (by simpa using hj)]
  show some _ = some ((flatK soV 4 L.toArray)[j]!)
  rw [getElem!_pos (flatK soV 4 L.toArray) j hj]
open Go.Sort in
/-- behind a contract in the sort's words -/
theorem OwnSols.putK {lo : Nat} {w : World} {g cap q : Nat} {L M : List So} (h : OwnSols lo w (.slice (some ⟨g, 0, none⟩) L.length cap) L) (hl : M.length = L.length) :
    OwnSols lo (putRowK soV 4 (Sort.ahead w q) g 0 M.toArray) (.slice (some ⟨g, 0, none⟩) L.length cap) M ∧ w.grownBy (putRowK soV 4 (Sort.ahead w q) g 0 M.toArray) (some g) := by
  refine ⟨?_, rfl, rfl, rfl, by simp [putRowK, putRow, mapBlock, Sort.ahead], fun k hk hne => ?_⟩
  · rcases h.2 with ⟨e0, _⟩ | ⟨g', cap', cur, e0, hb, hg, hn, hm, hs, ht⟩
    · cases e0
    · injection e0 with e1 _ e3
      injection e1 with e1
      injection e1 with e1
      subst e1; subst e3
      unfold OwnSols
      rw [hl]
      refine ⟨by rw [soCells_len, hl], .inr ⟨g, cap, putCells id 0 (flatK soV 4 M.toArray) cur, rfl, hb, ?_, hn, hm, by simpa [putCells] using hs, ?_⟩⟩
      · simp [putRowK, putRow, mapBlock, Sort.ahead, Array.getElem?_modify, hg, onCells]
      · rw [← flat_sols]
        apply List.ext_getElem?
        intro j
        rw [List.getElem?_take, Array.getElem?_toList, Array.getElem?_toList]
        by_cases hj : j < L.length * 4
        · have hjc : j < cur.size := by omega
          have hjf : j < (flatK soV 4 M.toArray).size := by simp [hl]; exact hj
          simp only [if_pos hj, putCells, Array.getElem?_mapIdx, Array.getElem?_eq_getElem hjc, Option.map_some]
          rw [if_pos (by omega), Array.getElem?_eq_getElem hjf]
          simp only [Nat.sub_zero, id]
          rw [getElem!_pos (flatK soV 4 M.toArray) j hjf]
        · rw [if_neg hj, Array.getElem?_eq_none (by simp [hl]; omega)]
  · have : g ≠ k := fun e => hne (by rw [e])
    simp [putRowK, putRow, mapBlock, Sort.ahead, Array.getElem?_modify, this]
theorem index_any {lo : Nat} (v : Value) (N : List So) (s : So) (k : Nat) (w : World) (hk : k < N.length) (hb : N.length ≤ 1000000000000) (h : OwnSols lo w v N) (hs : N.getD k noSo = s) (hne : ∀ j, j < k → N.getD j noSo ≠ s) :
    Calls Try.prog 105 #[v, .agg #[.int .i64 s.1, .int .i64 s.2.1, .int .i64 s.2.2.1, .int .i64 s.2.2.2]] w fun e w' => e = .returned (.int .i64 (k : Nat)) ∧ Later w w' := by
  obtain ⟨a, cap, rfl, _⟩ := h.shape
  obtain ⟨_, _, e, _, hcs⟩ := h.sols hb
  obtain ⟨g, hg, _⟩ := hcs 0 (by omega)
  simp only [Value.slice.injEq] at e
  obtain ⟨rfl, _, _⟩ := e
  subst hg
  have h' : w.ownsRow lo 69 4 (.slice (some ⟨g, 0, none⟩) N.length cap) N.length (soCells N) := h
  have hc := AnyQ.slices_Index laysSlLaysQ6 4 Try.isAgg69 Try.sizeOf69 soV (fun _ => rfl) (fun s u => decide (s = u)) eqlSo g 0 N.length cap N s w (Nat.le_refl _) (by omega) (fun j hj i v hv => by
    have hat := soCells_at N j hj
    have hi : i < 4 := by
      rcases Nat.lt_or_ge i 4 with h | h
      · exact h
      · rw [List.getElem?_eq_none (by simpa [soV] using h)] at hv; cases hv
    have e : w.cell? ⟨g, 0 + j * 4 + i, none⟩ = (soCells N)[j * 4 + i]? := by rw [Nat.zero_add]; exact h'.cellAt _ (by omega)
    rw [e]
    rw [getElem!_pos N j hj] at hv
    have h4 : i = 0 ∨ i = 1 ∨ i = 2 ∨ i = 3 := by omega
    rcases h4 with rfl | rfl | rfl | rfl
    · rw [Nat.add_zero, hat.1]; exact hv
    · rw [hat.2.1]; exact hv
    · rw [hat.2.2.1]; exact hv
    · rw [hat.2.2.2]; exact hv)
  refine (show Calls Try.prog 105 #[.slice (some ⟨g, 0, none⟩) N.length cap, .agg #[.int .i64 s.1, .int .i64 s.2.1, .int .i64 s.2.2.1, .int .i64 s.2.2.2]] w _ from hc).mono ?_
  rintro e w' ⟨rfl, q, rfl⟩
  have hx : Lib.idxBy (fun s u : So => decide (s = u)) (N.take N.length) s = (k : Int) := by
    rw [List.take_length]
    unfold Lib.idxBy
    have hgn : ∀ j, j < N.length → N[j]! = N.getD j noSo := fun j hj => by simp [hj]
    have := Lib.idxByFrom_hit (fun s u : So => decide (s = u)) s N k 0 hk (by rw [hgn k hk, hs]; simp) (fun j hj => by rw [hgn j (by omega)]; simp; exact fun e => hne j hj e.symm)
    rw [this, Nat.zero_add]
  exact ⟨by rw [hx], (Later.alloc w _).trans (Later.drewN _ _)⟩
end Go.Proofs.Ytoaopmafokoaoaa
