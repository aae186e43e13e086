/- All lists of squares with a sum, in the model. -/
import Derived.Test.YtcgdegmhajfbaacSqF
import Derived.Test.YtcgdegmhajfbaacRowsK
import Derived.Deep.AppendLies
import Derived.Laws.AppendOwnNone
import Derived.Deep.RegionHeld3
namespace Go.Proofs.Ytcgdegmhajfbaac
open Go.RowKit

theorem grown_later {w W w' : World} {o : Option Nat} (hL : Later w W) (hg : W.grownBy w' o) : w.grownBy w' o :=
  ⟨hg.os.trans hL.os, hg.tape.trans hL.tape, hg.output.trans hL.output, Nat.le_trans hL.size hg.size, fun k hk hne => (hg.block k (Nat.lt_of_lt_of_le hk hL.size) hne).trans (hL.block k hk)⟩
theorem rootN_le {n : Nat} (h : n ≤ 1000000) : rootN n ≤ 1000 := sq_in (rootN_spec n).1 h
theorem Ints.newsN {w : World} {g n c : Nat} {zs : List Int} (h : Ints w (.slice (some ⟨g, 0, none⟩) n c) zs) : ∀ j u, (zs.map (Value.int .i64))[j]? = some u → w.cell? ((⟨g, 0, none⟩ : Addr).add j) = some u := by
  intro j u hj
  obtain ⟨a, cap, hv, _, hc⟩ := h
  simp only [Value.slice.injEq] at hv
  obtain ⟨rfl, _, rfl⟩ := hv
  have hlt : j < zs.length := by
    rcases Nat.lt_or_ge j zs.length with h | h
    · exact h
    · rw [List.getElem?_eq_none (by simpa using h)] at hj; cases hj
  obtain ⟨ad', e, hx⟩ := hc j hlt
  simp only [Option.some.injEq] at e
  subst e
  rw [hx]
  simp [hlt] at hj ⊢
  exact hj
theorem litS9 (w : World) (zs : List Int) (hl : zs.length ≤ 1000) (n : Nat) (hn : n = zs.length) (cs : Array Value) (hc : cs = (zs.map (Value.int .i64)).toArray) : OwnInts w.heap.size (w.alloc (.cells cs 3)).heap.size (w.alloc (.cells cs 3)) (.slice (some ⟨w.heap.size, 0, none⟩) n n) zs := by
  subst hn hc
  have h := World.ownsRow_lit (e := 3) (size := 1) w (zs.map (Value.int .i64)).toArray zs.length (Nat.le_refl _) (by unfold maxLen; omega) (by simp)
  refine ⟨by simpa using h, fun b hb => by simp [Value.ownBlock] at hb ⊢; omega⟩
/-- One step: numbers that are read put behind numbers that the call owns. -/
theorem wpList_catI {ops : Array Oper} {rest : List Oper} {o : Oper} {a : Act} {Q : Exit → Act → World → Prop} (hgd : o.guard = none) (s x : Operand)
    (ho : o.op = .call { callee := .builtin .append, args := #[s, x], argTypes := #[28, 28] }) (lo hi : Nat) (w : World) (v u : Value) (L Z : List Int)
    (hs : a.eval s = v) (hlo : lo ≤ w.heap.size) (hO : OwnInts lo hi w v L) (hlen : L.length + Z.length ≤ 1000000) (hx : a.eval x = u) (hu : OwnInts 0 w.heap.size w u Z)
    (h : ∀ p n c w', OwnInts lo w'.heap.size w' (.slice p n c) (L ++ Z) → w.grownBy w' v.ownBlock → wpList Try.prog ops Q rest (a.put o.dst (.slice p n c)) w') :
    wpList Try.prog ops Q (o :: rest) a w := by
  obtain ⟨i0, hi, hz0, hz1, hz2⟩ := info_parts Try.infoInt
  have hint := hu.ints
  rcases hu.1.2 with ⟨rfl, h0⟩ | ⟨g, cap, cur, rfl, _⟩
  · have hZ : Z = [] := by
      have := hu.1.1; simp at this
      exact List.eq_nil_of_length_eq_zero h0
    subst hZ
    refine wpList_append_own_none hgd s x _ ho lo 3 i0 1 Try.underlying28 hi v _ _ hs hO.1 hx ?_
    obtain ⟨p, c, rfl, _⟩ := ownsRow_shape hO.1
    refine h _ _ _ w ?_ ⟨rfl, rfl, rfl, Nat.le_refl _, fun _ _ _ => rfl⟩
    rw [List.append_nil]
    exact ⟨hO.1, fun b hb => (hO.1.lt b hb).2⟩
  · refine wpList_append_own_at _ hgd s x _ ho lo 3 i0 (.int .i64 0) 1 8 Try.underlying28 hi hz0 hz1 hz2 rfl (by omega) v L.length (L.map (Value.int .i64)) hs hO.1 ⟨g, 0, none⟩ Z.length cap (Z.map (Value.int .i64)) hx (by simp) (hint.newsN) (fun u hu => by obtain ⟨y, _, rfl⟩ := List.mem_map.1 hu; rfl) (by unfold maxLen; omega) (by omega) hlo ?_
    intro v' w' hown hg _ _
    obtain ⟨p, c, rfl, _⟩ := ownsRow_shape hown
    exact h _ _ _ w' (OwnInts.ofH hown (by simp)) hg
theorem ownI_len {lo hi : Nat} {w : World} {p : Option Addr} {n c : Nat} {zs : List Int} (h : OwnInts lo hi w (.slice p n c) zs) : n = zs.length := by
  obtain ⟨q, d, e, _⟩ := ownsRow_shape h.1
  simp only [Value.slice.injEq] at e
  exact e.2.1
/-- One step: a row put behind rows that the call owns. -/
theorem wpList_pushR {ops : Array Oper} {rest : List Oper} {o : Oper} {a : Act} {Q : Exit → Act → World → Prop} (hgd : o.guard = none) (s x : Operand)
    (ho : o.op = .call { callee := .builtin .append, args := #[s, x], argTypes := #[22, 22] }) (lo h0 : Nat) (w W : World) (v : Value) (p : Option Addr) (n c : Nat) (L : List (List Int)) (r : List Int)
    (hs : a.eval s = v) (hlo : lo ≤ h0) (h0w : h0 ≤ w.heap.size) (hO : OwnRows lo h0 w v L) (hu : OwnInts h0 w.heap.size w (.slice p n c) r) (hlen : L.length ≤ 1000000) (hx : a.eval x = .slice (some ⟨w.heap.size, 0, none⟩) 1 1)
    (hW : W = w.alloc (.cells #[.slice p n c] 28))
    (h : ∀ g cap w', OwnRows lo w'.heap.size w' (.slice (some ⟨g, 0, none⟩) (L.length + 1) cap) (L ++ [r]) → w.grownBy w' v.ownBlock → (v.ownBlock = some g ∨ w.heap.size ≤ g) → wpList Try.prog ops Q rest (a.put o.dst (.slice (some ⟨g, 0, none⟩) (L.length + 1) cap)) w') :
    wpList Try.prog ops Q (o :: rest) a W := by
  obtain ⟨i0, hi, hz0, hz1, hz2⟩ := info_parts Try.infoInts
  have hA := Later.alloc w (.cells #[.slice p n c] 28)
  obtain ⟨us, hul, hus, hub, hin, hdis⟩ := hO.partsH
  have hown4 := hus.alloc (.cells #[.slice p n c] 28)
  have hnew := World.news_of_block (cs := #[.slice p n c]) (t := 28) (fr := (0, 0)) (heap_alloc_new w (.cells #[.slice p n c] 28))
  subst hW
  refine wpList_append_lies _ hgd s x _ ho lo 28 i0 (.slice none 0 0) 1 24 Try.underlying22 hi hz0 hz1 hz2 rfl (by omega) v us.length us hs hown4 ⟨w.heap.size, 0, none⟩ 1 1 [.slice p n c] hx rfl hnew (by simp [Value.oneCell']) (by omega) (by unfold maxLen; omega) (by omega) (by simp; omega) (w.heap.size + 1) (by simp) ?_
  intro g' cap1 w7 hown7 hgrow hat hglt
  have HP := OwnRows.pushed hul hown4 (fun i hi => ((hin i hi).later hA)) hdis ((hu.later hA).wide (Nat.le_refl _) (by simp)) hlo hown7 hgrow
  rw [hul] at HP ⊢
  refine h g' cap1 w7 HP (grown_later hA hgrow) ?_
  rcases hat with e | e
  · exact .inl e
  · exact .inr (by omega)

theorem lp_stop {α : Type} {stop : Nat → Bool} {f : Nat → List α} {x : Nat} (h : stop x = true) : Sq.lp stop f x = [] := by
  cases x <;> (unfold Sq.lp; rw [if_pos h])
/-- What is left when the next number is y - 1. -/
def lpY {α : Type} (stop : Nat → Bool) (f : Nat → List α) : Nat → List α
  | 0 => []
  | y + 1 => Sq.lp stop f y
theorem lpY_go {α : Type} {stop : Nat → Bool} {f : Nat → List α} {y : Nat} (h : stop y = false) : lpY stop f (y + 1) = f y ++ lpY stop f y := by
  cases y with
  | zero => show Sq.lp stop f 0 = _; unfold Sq.lp; rw [if_neg (by simp [h])]; simp [lpY]
  | succ y => show Sq.lp stop f (y + 1) = _; unfold Sq.lp; rw [if_neg (by simp [h])]; rfl
def sqStop (k n : Nat) (x : Nat) : Bool := decide ((k + 1) * x * x < n)
def sqF (k n : Nat) (x : Nat) : List (List Int) := (Sq.sqL k (n - x * x) x).map ((x : Int) :: ·)
theorem sqL_succ (k n most : Nat) : Sq.sqL (k + 1) n most = lpY (sqStop k n) (sqF k n) (min most (rootN n) + 1) := rfl
theorem take_step {α : Type} (E f r : List α) (m : Nat) : E ++ f.take (m - E.length) ++ r.take (m - (E ++ f.take (m - E.length)).length) = E ++ (f ++ r).take (m - E.length) := by
  rw [List.append_assoc, List.take_append, List.length_append, List.length_take]
  congr 2
  congr 1
  omega
theorem minI9 (a b : Nat) : leastI (a : Int) (b : Int) = ((min a b : Nat) : Int) := by unfold leastI; split <;> omega
theorem OwnRows.len_le {lo hi : Nat} {w : World} {v : Value} {L : List (List Int)} (h : OwnRows lo hi w v L) : ∃ p c, v = .slice p L.length c := by
  obtain ⟨us, hul, hus, _⟩ := h.partsH
  obtain ⟨p, c, rfl, _⟩ := ownsRow_shape hus
  exact ⟨p, c, by rw [hul]⟩
end Go.Proofs.Ytcgdegmhajfbaac
