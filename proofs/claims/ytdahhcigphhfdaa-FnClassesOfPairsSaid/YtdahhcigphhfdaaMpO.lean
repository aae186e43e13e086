/- Rows of numbers in the program: sorted and made free of repetition by Go's library. -/
import Derived.Test.YtdahhcigphhfdaaLaySort
import Derived.Test.YtdahhcigphhfdaaLayCompI
import Derived.Sort.OwnSortedInts
namespace Go.Proofs.Ytdahhcigphhfdaa
open Go.RowKit

def RisingI (l : List Int) : Prop := l.Pairwise (· < ·)
theorem risingI_unique : ∀ (A B : List Int), RisingI A → RisingI B → (∀ x, x ∈ A ↔ x ∈ B) → A = B
  | [], [], _, _, _ => rfl
  | [], b :: B, _, _, h => by have := (h b).2 List.mem_cons_self; cases this
  | a :: A, [], _, _, h => by have := (h a).1 List.mem_cons_self; cases this
  | a :: A, b :: B, hA, hB, h => by
    rw [RisingI, List.pairwise_cons] at hA hB
    have hab : a = b := by
      rcases List.mem_cons.1 ((h a).1 List.mem_cons_self) with e | h1
      · exact e
      · rcases List.mem_cons.1 ((h b).2 List.mem_cons_self) with e | h2
        · exact e.symm
        · exact absurd (hB.1 a h1) (by have := hA.1 b h2; omega)
    subst hab
    refine congrArg _ (risingI_unique A B hA.2 hB.2 fun x => ?_)
    have hx := h x
    simp only [List.mem_cons] at hx
    constructor
    · intro h1
      rcases hx.1 (Or.inr h1) with e | h2
      · subst e; exact absurd (hA.1 _ h1) (by omega)
      · exact h2
    · intro h1
      rcases hx.2 (Or.inr h1) with e | h2
      · subst e; exact absurd (hB.1 _ h1) (by omega)
      · exact h2
theorem getElemI_some {zs : List Int} {j : Nat} (h : j < zs.length) : zs[j]? = some (zs.toArray[j]!) := by
  simp [h]
theorem compactI_mem_aux (zs : List Int) (x : Int) : ∀ j : Nat, zs[j]? = some x → x ∈ Go.Lib.compact zs := by
  intro j
  induction j with
  | zero =>
    intro h
    have hl : 0 < zs.length := by
      rcases Nat.eq_zero_or_pos zs.length with e | e
      · rw [List.length_eq_zero_iff] at e; subst e; simp at h
      · exact e
    refine List.mem_map.2 ⟨0, List.mem_filter.2 ⟨List.mem_range.2 hl, by simp [Go.Lib.keeps]⟩, ?_⟩
    rw [getElemI_some hl, Option.some.injEq] at h
    exact h
  | succ j ih =>
    intro h
    have hl : j + 1 < zs.length := by
      rcases Nat.lt_or_ge (j + 1) zs.length with e | e
      · exact e
      · rw [List.getElem?_eq_none e] at h; cases h
    have hx := h
    rw [getElemI_some hl, Option.some.injEq] at hx
    by_cases e : zs.toArray[j + 1]! = zs.toArray[j]!
    · exact ih (by rw [getElemI_some (by omega), ← e, hx])
    · refine List.mem_map.2 ⟨j + 1, List.mem_filter.2 ⟨List.mem_range.2 hl, ?_⟩, hx⟩
      unfold Go.Lib.keeps
      exact decide_eq_true (.inr e)
theorem compactI_mem (zs : List Int) (x : Int) : x ∈ Go.Lib.compact zs ↔ x ∈ zs := by
  constructor
  · intro h
    obtain ⟨j, hj, e⟩ := List.mem_map.1 h
    have hl := List.mem_range.1 (List.mem_filter.1 hj).1
    rw [← e]
    exact List.mem_of_getElem? (getElemI_some hl)
  · intro h
    obtain ⟨j, hj⟩ := List.getElem?_of_mem h
    exact compactI_mem_aux zs x j hj
theorem compactI_rising (zs : List Int) (h : zs.Pairwise (· ≤ ·)) : RisingI (Go.Lib.compact zs) := by
  have hle : ∀ i j, i < j → j < zs.length → zs.toArray[i]! ≤ zs.toArray[j]! := by
    intro i j hij hj
    have := (List.pairwise_iff_getElem.1 h) i j (by omega) hj hij
    simpa [show i < zs.length by omega, hj] using this
  have key : ∀ m, m ≤ zs.length → RisingI (Go.Lib.compactUpTo zs.toArray m) := by
    intro m
    induction m with
    | zero => intro _; exact List.Pairwise.nil
    | succ m ih =>
      intro hm
      rw [Go.Lib.compactUpTo_succ]
      split
      · rename_i hk
        rw [RisingI, List.pairwise_append]
        refine ⟨ih (by omega), List.pairwise_singleton _ _, ?_⟩
        intro x hx y hy
        rw [List.mem_singleton] at hy
        subst hy
        obtain ⟨j, hj, e⟩ := List.mem_map.1 hx
        have hjm := List.mem_range.1 (List.mem_filter.1 hj).1
        subst e
        have hne : zs.toArray[m]! ≠ zs.toArray[m - 1]! := by
          unfold Go.Lib.keeps at hk
          rcases of_decide_eq_true hk with h0 | h0
          · omega
          · exact h0
        have h1 : zs.toArray[m - 1]! < zs.toArray[m]! := (by have := hle (m - 1) m (by omega) (by omega); omega)
        by_cases e : j = m - 1
        · subst e; exact h1
        · have h2 := hle j (m - 1) (by omega) (by omega)
          by_cases e2 : zs.toArray[j]! = zs.toArray[m - 1]!
          · rw [e2]; exact h1
          · omega
      · rw [List.append_nil]; exact ih (by omega)
  exact key _ (Nat.le_refl _)
theorem ownsRow_prefixI {w : World} {base : Nat} {e : TypeId} {g n m cap : Nat} {xs : List Value} (h : w.ownsRow base e 1 (.slice (some ⟨g, 0, none⟩) n cap) n xs) (hm : m ≤ n) :
    w.ownsRow base e 1 (.slice (some ⟨g, 0, none⟩) m cap) m (xs.take m) := by
  obtain ⟨hl, h2⟩ := h
  rw [Nat.mul_one] at hl
  refine ⟨by rw [List.length_take]; omega, ?_⟩
  rcases h2 with ⟨hn, _⟩ | ⟨g', cap', cur, hv, hbase, hb, h1, h2, h3, h4⟩
  · cases hn
  cases hv
  refine .inr ⟨g, cap, cur, rfl, hbase, hb, by omega, h2, h3, ?_⟩
  rw [Nat.mul_one] at h4 ⊢
  rw [← h4, List.take_take, Nat.min_eq_left hm]

theorem compactI_len (zs : List Int) : (Go.Lib.compact zs).length ≤ zs.length := by
  unfold Go.Lib.compact Go.Lib.compactUpTo
  rw [List.length_map]
  exact Nat.le_trans (List.length_filter_le _ _) (by simp)
/-- a row of numbers of the call's own -/
def OwnZs (lo : Nat) (w : World) (b cap : Nat) (zs : List Int) : Prop := w.ownsRow lo 3 1 (.slice (some ⟨b, 0, none⟩) zs.length cap) zs.length (zs.map (Value.int .i64))
open Go.Sort in
theorem sortZ_any {lo : Nat} (b cap : Nat) (zs : List Int) (w : World) (hn : zs.length ≤ 100000000) (h : OwnZs lo w b cap zs) :
    Calls Try.prog 80 #[.slice (some ⟨b, 0, none⟩) zs.length cap] w fun e w' => e = .returned (.tuple #[]) ∧ OwnZs lo w' b cap (zs.mergeSort fun x y => decide (x ≤ y)) ∧ w.grownBy w' (some b) := by
  rcases h.2 with ⟨hn, _⟩ | ⟨g', cap', cur, hv, hbase, hb, h1, h2, h3, h4⟩
  · cases hn
  cases hv
  have hlt : b < w.heap.size := (Array.getElem?_eq_some_iff.1 hb).1
  have hl : (zs.mergeSort fun x y => decide (x ≤ y)).length = zs.length := List.length_mergeSort _
  refine (Any.slices_Sort_int laysLays189 b 0 cap zs w (holds_of_blockI hb (by rw [Nat.mul_one] at h4; exact h4)) hlt (by omega)).mono ?_
  rintro e w' ⟨rfl, n, os, rfl⟩
  refine ⟨rfl, ?_, grownBy_sortedI _⟩
  unfold OwnZs
  rw [hl]
  exact ownsRow_sortedI hl hbase hb h1 h2 h3
open Go.Sort in
theorem compactZ_any {lo : Nat} (b cap : Nat) (zs : List Int) (w : World) (hn : zs.length ≤ 100000000) (h : OwnZs lo w b cap zs) :
    Calls Try.prog 81 #[.slice (some ⟨b, 0, none⟩) zs.length cap] w fun e w' => e = .returned (.slice (some ⟨b, 0, none⟩) (Lib.compact zs).length cap) ∧ OwnZs lo w' b cap (Lib.compact zs) ∧ w.grownBy w' (some b) := by
  rcases h.2 with ⟨hn, _⟩ | ⟨g', cap', cur, hv, hbase, hb, h1, h2, h3, h4⟩
  · cases hn
  cases hv
  have hcl := compactI_len zs
  refine (Any.slices_Compact_int laysCompI b 0 cap zs w (holds_of_blockI hb (by rw [Nat.mul_one] at h4; exact h4)) (by omega) h1).mono ?_
  rintro e w' ⟨rfl, q, rfl⟩
  have hs := ownsRow_sortedI (w := w) (n := q) (os := #[]) (ss := zs) (ts := Lib.compact zs ++ List.replicate (zs.length - (Lib.compact zs).length) 0) (by simp; omega) hbase hb h1 h2 h3
  rw [Go.Sort.grow_empty] at hs
  have hg := grownBy_sortedI (w := w) (g := b) (n := q) (os := #[]) (Lib.compact zs ++ List.replicate (zs.length - (Lib.compact zs).length) 0).toArray
  rw [Go.Sort.grow_empty] at hg
  refine ⟨rfl, ?_, hg⟩
  have hp := ownsRow_prefixI hs hcl
  rw [← List.map_take, List.take_left] at hp
  exact hp
end Go.Proofs.Ytdahhcigphhfdaa
