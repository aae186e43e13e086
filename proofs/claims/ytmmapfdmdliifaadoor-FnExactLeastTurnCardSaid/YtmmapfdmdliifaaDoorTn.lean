/- Turns of letters: put in one after the other, or sorted and made single: the same list. -/
import Derived.Test.YtmmapfdmdliifaaDoorWd
import Derived.Lib.SlicesCompact
namespace Go.Proofs.YtmmapfdmdliifaaDoor

/-! ### turns -/

abbrev Bs := List UInt8
theorem bs_irrefl (a : Bs) : ¬ a < a := List.lt_irrefl a
theorem bs_trans {a b c : Bs} (h : a < b) (k : b < c) : a < c := List.lt_trans h k
theorem bs_asymm {a b : Bs} (h : a < b) : ¬ b < a := fun k => bs_irrefl a (bs_trans h k)
theorem bs_tri {a b : Bs} (h : ¬ a < b) (k : a ≠ b) : b < a := by
  rcases Classical.em (b < a) with h1 | h1
  · exact h1
  · exact (k (List.le_antisymm (List.not_lt.1 h1) (List.not_lt.1 h))).elim
theorem bs_le_lt {a b : Bs} (h : a ≤ b) (k : a ≠ b) : a < b := by
  rcases Classical.em (a < b) with h1 | h1
  · exact h1
  · exact (k (List.le_antisymm h (List.not_lt.1 h1))).elim
abbrev Rising (L : List Bs) : Prop := L.Pairwise (· < ·)
theorem rising_unique : ∀ (A B : List Bs), Rising A → Rising B → (∀ x, x ∈ A ↔ x ∈ B) → A = B
  | [], [], _, _, _ => rfl
  | [], b :: B, _, _, h => by have := (h b).2 List.mem_cons_self; cases this
  | a :: A, [], _, _, h => by have := (h a).1 List.mem_cons_self; cases this
  | a :: A, b :: B, hA, hB, h => by
    rw [Rising, List.pairwise_cons] at hA hB
    have hab : a = b := by
      rcases List.mem_cons.1 ((h a).1 List.mem_cons_self) with e | h1
      · exact e
      · rcases List.mem_cons.1 ((h b).2 List.mem_cons_self) with e | h2
        · exact e.symm
        · exact (bs_asymm (hB.1 a h1) (hA.1 b h2)).elim
    subst hab
    refine congrArg _ (rising_unique A B hA.2 hB.2 fun x => ?_)
    have hx := h x
    simp only [List.mem_cons] at hx
    constructor
    · intro h1
      rcases hx.1 (Or.inr h1) with e | h2
      · subst e; exact (bs_irrefl _ (hA.1 _ h1)).elim
      · exact h2
    · intro h1
      rcases hx.2 (Or.inr h1) with e | h2
      · subst e; exact (bs_irrefl _ (hB.1 _ h1)).elim
      · exact h2
theorem mem_takeWhile_p (p : Bs → Bool) (L : List Bs) (x : Bs) (h : x ∈ L.takeWhile p) : p x = true := by
  induction L with
  | nil => cases h
  | cons y r ih =>
    simp only [List.takeWhile] at h
    cases hy : p y
    · rw [hy] at h; cases h
    · rw [hy] at h
      rcases List.mem_cons.1 h with rfl | h
      · exact hy
      · exact ih h
/-- How many texts at the head of a list come before t. -/
def posS (L : List Bs) (t : Bs) : Nat := (L.takeWhile fun x => decide (x < t)).length
def insS (L : List Bs) (t : Bs) : List Bs := if L[posS L t]? = some t then L else L.take (posS L t) ++ [t] ++ L.drop (posS L t)
theorem posS_le (L : List Bs) (t : Bs) : posS L t ≤ L.length := (List.takeWhile_sublist _).length_le
theorem posS_take (L : List Bs) (t : Bs) : L.take (posS L t) = L.takeWhile fun x => decide (x < t) := by
  unfold posS
  induction L with
  | nil => rfl
  | cons x r ih =>
    simp only [List.takeWhile]
    cases h : decide (x < t)
    · rfl
    · simp [ih]
theorem posS_drop (L : List Bs) (t : Bs) : L.drop (posS L t) = L.dropWhile fun x => decide (x < t) := by
  unfold posS
  induction L with
  | nil => rfl
  | cons x r ih =>
    simp only [List.takeWhile, List.dropWhile]
    cases h : decide (x < t)
    · rfl
    · simp [ih]
theorem posS_before {L : List Bs} {t : Bs} {j : Nat} (h : j < posS L t) : ∃ x, L[j]? = some x ∧ x < t := by
  have hl := posS_le L t
  have h1 : j < L.length := by omega
  refine ⟨L[j], by simp, ?_⟩
  have h2 : L[j] ∈ L.take (posS L t) := by
    rw [List.mem_take_iff_getElem]
    exact ⟨j, by omega, rfl⟩
  rw [posS_take] at h2
  have := mem_takeWhile_p _ _ _ h2
  simpa using this
theorem posS_stop {L : List Bs} {t x : Bs} (h : L[posS L t]? = some x) : ¬ x < t := by
  have h1 : (L.drop (posS L t))[0]? = some x := by rw [List.getElem?_drop, Nat.add_zero]; exact h
  rw [posS_drop] at h1
  cases hd : L.dropWhile (fun x => decide (x < t)) with
  | nil => rw [hd] at h1; simp at h1
  | cons y r =>
    rw [hd] at h1
    simp only [List.getElem?_cons_zero, Option.some.injEq] at h1
    subst h1
    have hne : L.dropWhile (fun x => decide (x < t)) ≠ [] := by rw [hd]; simp
    have := List.head_dropWhile_not (p := fun x => decide (x < t)) (l := L) hne
    simp only [hd, List.head_cons, decide_eq_false_iff_not] at this
    exact this
theorem posS_is {L : List Bs} {t : Bs} {k : Nat} (hk : k ≤ L.length) (h1 : ∀ j, j < k → ∀ x, L[j]? = some x → x < t) (h2 : ∀ x, L[k]? = some x → ¬ x < t) : posS L t = k := by
  rcases Nat.lt_trichotomy (posS L t) k with h | h | h
  · have hl : posS L t < L.length := by omega
    exact (posS_stop (L := L) (t := t) (x := L[posS L t]) (by simp) (h1 _ h _ (by simp))).elim
  · exact h
  · obtain ⟨x, hx, hlt⟩ := posS_before h
    exact (h2 x hx hlt).elim
theorem insS_mem {L : List Bs} {t x : Bs} : x ∈ insS L t ↔ x ∈ L ∨ x = t := by
  unfold insS
  split
  · rename_i h
    have := List.mem_of_getElem? h
    constructor
    · exact Or.inl
    · rintro (h1 | rfl)
      · exact h1
      · exact this
  · have e : x ∈ L ↔ x ∈ L.take (posS L t) ∨ x ∈ L.drop (posS L t) := by rw [← List.mem_append, List.take_append_drop]
    rw [List.append_assoc, List.mem_append, List.mem_append, List.mem_singleton, e]
    constructor
    · rintro (h | h | h)
      · exact .inl (.inl h)
      · exact .inr h
      · exact .inl (.inr h)
    · rintro ((h | h) | h)
      · exact .inl h
      · exact .inr (.inr h)
      · exact .inr (.inl h)
theorem insS_rising {L : List Bs} (t : Bs) (h : Rising L) : Rising (insS L t) := by
  unfold insS
  split
  · exact h
  · rename_i hne
    have hcut : Rising (L.take (posS L t) ++ L.drop (posS L t)) := by rw [List.take_append_drop]; exact h
    obtain ⟨p1, p2, p3⟩ := List.pairwise_append.1 hcut
    have hlt : ∀ x ∈ L.take (posS L t), x < t := by
      intro x hx
      rw [posS_take] at hx
      simpa using mem_takeWhile_p _ _ _ hx
    have hgt : ∀ x ∈ L.drop (posS L t), t < x := by
      intro x hx
      cases hd : L.drop (posS L t) with
      | nil => rw [hd] at hx; cases hx
      | cons y r =>
        have hy : L[posS L t]? = some y := by
          have : (L.drop (posS L t))[0]? = some y := by rw [hd]; rfl
          rw [List.getElem?_drop, Nat.add_zero] at this
          exact this
        have h1 : t < y := bs_tri (posS_stop hy) (fun e => hne (by rw [hy, e]))
        rw [hd] at hx p2
        rcases List.mem_cons.1 hx with rfl | hx
        · exact h1
        · exact bs_trans h1 ((List.pairwise_cons.1 p2).1 x hx)
    rw [Rising, List.append_assoc, List.pairwise_append]
    refine ⟨p1, ?_, ?_⟩
    · rw [List.singleton_append, List.pairwise_cons]
      exact ⟨hgt, p2⟩
    · intro x hx y hy
      rw [List.singleton_append] at hy
      rcases List.mem_cons.1 hy with rfl | hy
      · exact hlt x hx
      · exact p3 x hx y hy
def turn (l : Bs) (i : Nat) : Bs := l.drop i ++ l.take i
theorem turn_len (l : Bs) (i : Nat) : (turn l i).length = l.length := by simp [turn]; omega
def turnsL (l : Bs) : List Bs := (List.range l.length).map (turn l)
/-- The first k turns, put in one after the other. -/
def insTo (l : Bs) : Nat → List Bs
  | 0 => []
  | k + 1 => insS (insTo l k) (turn l k)
theorem insTo_rising (l : Bs) (k : Nat) : Rising (insTo l k) := by
  induction k with
  | zero => exact List.Pairwise.nil
  | succ k ih => exact insS_rising _ ih
theorem insTo_mem (l : Bs) (k : Nat) (x : Bs) : x ∈ insTo l k ↔ ∃ i, i < k ∧ x = turn l i := by
  induction k with
  | zero => simp [insTo]
  | succ k ih =>
    rw [insTo, insS_mem, ih]
    constructor
    · rintro (⟨i, h, e⟩ | e)
      · exact ⟨i, by omega, e⟩
      · exact ⟨k, by omega, e⟩
    · rintro ⟨i, h, e⟩
      by_cases hk : i = k
      · subst hk; exact .inr e
      · exact .inl ⟨i, by omega, e⟩
theorem insTo_len (l : Bs) (k : Nat) : (insTo l k).length ≤ k := by
  induction k with
  | zero => simp [insTo]
  | succ k ih =>
    rw [insTo]
    unfold insS
    split
    · omega
    · have := posS_le (insTo l k) (turn l k)
      simp only [List.length_append, List.length_take, List.length_drop, List.length_singleton]
      omega
def turnsW (l : Bs) : List Bs := insTo l l.length
theorem getElem!_some {zs : List Bs} {j : Nat} (h : j < zs.length) : zs[j]? = some (zs.toArray[j]!) := by
  simp [h]
theorem compact_mem_aux (zs : List Bs) (x : Bs) : ∀ j : Nat, zs[j]? = some x → x ∈ Go.Lib.compact zs := by
  intro j
  induction j with
  | zero =>
    intro h
    have hl : 0 < zs.length := by
      rcases Nat.eq_zero_or_pos zs.length with e | e
      · rw [List.length_eq_zero_iff] at e; subst e; simp at h
      · exact e
    refine List.mem_map.2 ⟨0, List.mem_filter.2 ⟨List.mem_range.2 hl, by simp [Go.Lib.keeps]⟩, ?_⟩
    rw [getElem!_some hl, Option.some.injEq] at h
    exact h
  | succ j ih =>
    intro h
    have hl : j + 1 < zs.length := by
      rcases Nat.lt_or_ge (j + 1) zs.length with e | e
      · exact e
      · rw [List.getElem?_eq_none e] at h; cases h
    have hx := h
    rw [getElem!_some hl, Option.some.injEq] at hx
    by_cases e : zs.toArray[j + 1]! = zs.toArray[j]!
    · exact ih (by rw [getElem!_some (by omega), ← e, hx])
    · refine List.mem_map.2 ⟨j + 1, List.mem_filter.2 ⟨List.mem_range.2 hl, ?_⟩, hx⟩
      unfold Go.Lib.keeps
      exact decide_eq_true (.inr e)
theorem compact_mem (zs : List Bs) (x : Bs) : x ∈ Go.Lib.compact zs ↔ x ∈ zs := by
  constructor
  · intro h
    obtain ⟨j, hj, e⟩ := List.mem_map.1 h
    have hl := List.mem_range.1 (List.mem_filter.1 hj).1
    rw [← e]
    exact List.mem_of_getElem? (getElem!_some hl)
  · intro h
    obtain ⟨j, hj⟩ := List.getElem?_of_mem h
    exact compact_mem_aux zs x j hj
theorem compact_rising (zs : List Bs) (h : zs.Pairwise (· ≤ ·)) : Rising (Go.Lib.compact zs) := by
  have hle : ∀ i j, i < j → j < zs.length → zs.toArray[i]! ≤ zs.toArray[j]! := by
    intro i j hij hj
    have := (List.pairwise_iff_getElem.1 h) i j (by omega) hj hij
    simpa [show i < zs.length by omega, hj] using this
  have key : ∀ m, m ≤ zs.length → Rising (Go.Lib.compactUpTo zs.toArray m) := by
    intro m
    induction m with
    | zero => intro _; exact List.Pairwise.nil
    | succ m ih =>
      intro hm
      rw [Go.Lib.compactUpTo_succ]
      split
      · rename_i hk
        rw [Rising, List.pairwise_append]
        refine ⟨ih (by omega), List.pairwise_singleton _ _, ?_⟩
        intro x hx y hy
        rw [List.mem_singleton] at hy
        subst hy
        obtain ⟨j, hj, e⟩ := List.mem_map.1 hx
        have hjm := List.mem_range.1 (List.mem_filter.1 hj).1
        subst e
        have hne : zs.toArray[m]! ≠ zs.toArray[m - 1]! := by
          unfold Go.Lib.keeps at hk
          rcases of_decide_eq_true hk with h0 | h0
          · omega
          · exact h0
        have h1 : zs.toArray[m - 1]! < zs.toArray[m]! := bs_le_lt (hle (m - 1) m (by omega) (by omega)) (Ne.symm hne)
        by_cases e : j = m - 1
        · subst e; exact h1
        · have h2 := hle j (m - 1) (by omega) (by omega)
          by_cases e2 : zs.toArray[j]! = zs.toArray[m - 1]!
          · rw [e2]; exact h1
          · exact bs_trans (bs_le_lt h2 e2) h1
      · rw [List.append_nil]; exact ih (by omega)
  exact key _ (Nat.le_refl _)
theorem turns_same (l : Bs) : Go.Lib.compact ((turnsL l).mergeSort fun x y => decide (x ≤ y)) = turnsW l := by
  refine rising_unique _ _ (compact_rising _ ?_) (insTo_rising l _) fun x => ?_
  · have := List.pairwise_mergeSort (le := fun (x y : Bs) => decide (x ≤ y)) (fun a b c h1 h2 => by
      simp only [decide_eq_true_eq] at h1 h2 ⊢; exact List.le_trans h1 h2) (fun a b => by
      simp only [Bool.or_eq_true, decide_eq_true_eq]; exact List.le_total a b) (turnsL l)
    exact this.imp fun h => by simpa using h
  · rw [compact_mem, List.mem_mergeSort]
    unfold turnsW
    rw [insTo_mem]
    unfold turnsL
    rw [List.mem_map]
    constructor
    · rintro ⟨i, h, e⟩; exact ⟨i, List.mem_range.1 h, e.symm⟩
    · rintro ⟨i, h, e⟩; exact ⟨i, List.mem_range.2 h, e.symm⟩
theorem turnsW_pos {l : Bs} (h : 0 < l.length) : 0 < (turnsW l).length := by
  have : turn l 0 ∈ turnsW l := (insTo_mem l _ _).2 ⟨0, h, rfl⟩
  exact List.length_pos_of_mem this
end Go.Proofs.YtmmapfdmdliifaaDoor
