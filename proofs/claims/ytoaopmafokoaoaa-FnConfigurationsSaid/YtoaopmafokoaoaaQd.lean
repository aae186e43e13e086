/- Four curvatures: the arithmetic of quads, swaps and the way down. -/
import Derived.Test.YtoaopmafokoaoaaBasA
namespace Go.Proofs.Ytoaopmafokoaoaa
open Go.RowKit

def qsq (zs : List Int) : Int := (zs.map fun z => z * z).sum
def apB (zs : List Int) : Bool := decide (zs.length = 4) && zs.all (within (-100000) 100000) && (decide (0 < zs.sum) && decide (2 * qsq zs = zs.sum * zs.sum))
/-- what stands at an index behind a swap -/
def swN (zs : List Int) (i : Nat) : Int := 2 * (zs.sum - zs.getD i 0) - zs.getD i 0
def swL (zs : List Int) (i : Nat) : List Int := zs.set i (swN zs i)
/-- Four numbers that are a quad. -/
structure QD (a b c d : Int) : Prop where
  ha : -100000 ≤ a ∧ a ≤ 100000
  hb : -100000 ≤ b ∧ b ≤ 100000
  hc : -100000 ≤ c ∧ c ≤ 100000
  hd : -100000 ≤ d ∧ d ≤ 100000
  hs : 0 < a + b + c + d
  he : 2 * (a * a + b * b + c * c + d * d) = (a + b + c + d) * (a + b + c + d)
theorem sum4 (a b c d : Int) : [a, b, c, d].sum = a + b + c + d := by simp; omega
theorem qsq4 (a b c d : Int) : qsq [a, b, c, d] = a * a + b * b + c * c + d * d := by simp [qsq]; omega
theorem apB_len {zs : List Int} (h : zs.length ≠ 4) : apB zs = false := by simp [apB, h]
theorem len4 {zs : List Int} (h : zs.length = 4) : ∃ a b c d, zs = [a, b, c, d] := by
  match zs, h with
  | [a, b, c, d], _ => exact ⟨a, b, c, d, rfl⟩
theorem apB_iff (a b c d : Int) : apB [a, b, c, d] = true ↔ QD a b c d := by
  simp only [apB, sum4, qsq4]
  simp only [List.length_cons, List.length_nil, List.all_cons, List.all_nil, within, Bool.and_eq_true, decide_eq_true_eq]
  constructor
  · rintro ⟨⟨_, h1, h2, h3, h4, _⟩, h5, h6⟩
    exact ⟨h1, h2, h3, h4, h5, h6⟩
  · rintro ⟨h1, h2, h3, h4, h5, h6⟩
    exact ⟨⟨trivial, h1, h2, h3, h4, trivial⟩, h5, h6⟩
theorem apB_four {zs : List Int} (h : apB zs = true) : ∃ a b c d, zs = [a, b, c, d] ∧ QD a b c d := by
  by_cases hl : zs.length = 4
  · obtain ⟨a, b, c, d, rfl⟩ := len4 hl
    exact ⟨a, b, c, d, rfl, (apB_iff a b c d).1 h⟩
  · rw [apB_len hl] at h; cases h
theorem sq_nn (x : Int) : 0 ≤ x * x := by
  rcases Int.le_total 0 x with h | h
  · exact Int.mul_nonneg h h
  · have := Int.mul_nonneg (show 0 ≤ -x by omega) (show 0 ≤ -x by omega)
    rw [Int.neg_mul_neg] at this; exact this
theorem nn_of_mul {x y : Int} (hs : 0 < x + y) (h : 0 ≤ x * y) : 0 ≤ x ∧ 0 ≤ y := by
  constructor
  · rcases Int.lt_or_le x 0 with hx | hx
    · have h1 : 0 < y := by omega
      have h2 := Int.mul_neg_of_neg_of_pos hx h1
      omega
    · exact hx
  · rcases Int.lt_or_le y 0 with hx | hx
    · have h1 : 0 < x := by omega
      have h2 := Int.mul_neg_of_pos_of_neg h1 hx
      omega
    · exact hx
theorem eq_pair {a b c d : Int} (hs : 0 < a + b + c + d) (he : 2 * (a * a + b * b + c * c + d * d) = (a + b + c + d) * (a + b + c + d)) : 0 ≤ a + b ∧ 0 ≤ c + d := by
  have h1 := sq_nn (a - b)
  have h2 := sq_nn (c - d)
  have h3 : 2 * ((a + b) * (c + d)) = (a - b) * (a - b) + (c - d) * (c - d) := by grind
  exact nn_of_mul (by omega) (by omega)
theorem QD.pair {a b c d : Int} (h : QD a b c d) : 0 ≤ a + b ∧ 0 ≤ c + d := eq_pair h.hs h.he
theorem QD.p12 {a b c d : Int} (h : QD a b c d) : QD b a c d := ⟨h.hb, h.ha, h.hc, h.hd, by have := h.hs; omega, by have := h.he; grind⟩
theorem QD.p13 {a b c d : Int} (h : QD a b c d) : QD c b a d := ⟨h.hc, h.hb, h.ha, h.hd, by have := h.hs; omega, by have := h.he; grind⟩
theorem QD.p14 {a b c d : Int} (h : QD a b c d) : QD d b c a := ⟨h.hd, h.hb, h.hc, h.ha, by have := h.hs; omega, by have := h.he; grind⟩
/-- behind a swap of the first number: the equation holds, the sum is greater than 0, and the number is not too little -/
theorem QD.sw1 {a b c d : Int} (h : QD a b c d) : 2 * ((2 * (b + c + d) - a) * (2 * (b + c + d) - a) + b * b + c * c + d * d) = (2 * (b + c + d) - a + b + c + d) * (2 * (b + c + d) - a + b + c + d) ∧ 0 < 2 * (b + c + d) - a + b + c + d ∧ -100000 ≤ 2 * (b + c + d) - a ∧ 2 * (b + c + d) - a ≤ 700000 := by
  have he := h.he
  have hs := h.hs
  have e2 : 2 * ((2 * (b + c + d) - a) * (2 * (b + c + d) - a) + b * b + c * c + d * d) = (2 * (b + c + d) - a + b + c + d) * (2 * (b + c + d) - a + b + c + d) := by grind
  have hp : 0 < 2 * (b + c + d) - a + b + c + d := by
    have h1 : (a + b + c + d) * (2 * (b + c + d) - a + b + c + d) = 2 * ((b + c + d) * (b + c + d)) + 2 * (b * b) + 2 * (c * c) + 2 * (d * d) := by grind
    have hb := sq_nn b
    have hc := sq_nn c
    have hd := sq_nn d
    have ht := sq_nn (b + c + d)
    rcases Int.lt_or_le 0 (2 * (b + c + d) - a + b + c + d) with hx | hx
    · exact hx
    · exfalso
      have h2 : (a + b + c + d) * (2 * (b + c + d) - a + b + c + d) ≤ 0 := Int.mul_nonpos_of_nonneg_of_nonpos (by omega) hx
      have b0 : b * b = 0 := by omega
      have c0 : c * c = 0 := by omega
      have d0 : d * d = 0 := by omega
      have b1 : b = 0 := by simpa [Int.mul_eq_zero] using b0
      have c1 : c = 0 := by simpa [Int.mul_eq_zero] using c0
      have d1 : d = 0 := by simpa [Int.mul_eq_zero] using d0
      subst b1; subst c1; subst d1
      simp at he
      have : a * a = 0 := by omega
      have a1 : a = 0 := by simpa [Int.mul_eq_zero] using this
      omega
  refine ⟨e2, hp, ?_, by have := h.ha; have := h.hb; have := h.hc; have := h.hd; omega⟩
  have h3 := (eq_pair (a := 2 * (b + c + d) - a) (b := b) (c := c) (d := d) hp e2).1
  have := h.hb
  omega
theorem QD.swap1 {a b c d : Int} (h : QD a b c d) (hx : 2 * (b + c + d) - a ≤ 100000) : QD (2 * (b + c + d) - a) b c d :=
  ⟨⟨h.sw1.2.2.1, hx⟩, h.hb, h.hc, h.hd, h.sw1.2.1, h.sw1.1⟩
theorem swN4 (a b c d : Int) : swN [a, b, c, d] 0 = 2 * (b + c + d) - a ∧ swN [a, b, c, d] 1 = 2 * (a + c + d) - b ∧ swN [a, b, c, d] 2 = 2 * (a + b + d) - c ∧ swN [a, b, c, d] 3 = 2 * (a + b + c) - d := by
  unfold swN
  rw [sum4]
  simp
  omega
theorem swN_bd {zs : List Int} (h : apB zs = true) (i : Nat) (hi : i < 4) : -100000 ≤ swN zs i ∧ swN zs i ≤ 700000 := by
  obtain ⟨a, b, c, d, rfl, hq⟩ := apB_four h
  obtain ⟨e0, e1, e2, e3⟩ := swN4 a b c d
  have h4 : i = 0 ∨ i = 1 ∨ i = 2 ∨ i = 3 := by omega
  rcases h4 with rfl | rfl | rfl | rfl
  · rw [e0]; exact hq.sw1.2.2
  · rw [e1]; have := hq.p12.sw1.2.2; omega
  · rw [e2]; have := hq.p13.sw1.2.2; omega
  · rw [e3]; have := hq.p14.sw1.2.2; omega
theorem swL_good {zs : List Int} (h : apB zs = true) (i : Nat) (hi : i < 4) : apB (swL zs i) = decide (swN zs i ≤ 100000) := by
  obtain ⟨a, b, c, d, rfl, hq⟩ := apB_four h
  obtain ⟨e0, e1, e2, e3⟩ := swN4 a b c d
  by_cases hx : swN [a, b, c, d] i ≤ 100000
  · rw [decide_eq_true hx]
    have h4 : i = 0 ∨ i = 1 ∨ i = 2 ∨ i = 3 := by omega
    rcases h4 with rfl | rfl | rfl | rfl
    · rw [e0] at hx
      simp only [swL, e0, List.set_cons_zero]
      exact (apB_iff _ _ _ _).2 (hq.swap1 hx)
    · rw [e1] at hx
      simp only [swL, e1, List.set_cons_succ, List.set_cons_zero]
      exact (apB_iff _ _ _ _).2 (hq.p12.swap1 hx).p12
    · rw [e2] at hx
      simp only [swL, e2, List.set_cons_succ, List.set_cons_zero]
      have := (hq.p13.swap1 (by omega)).p13
      rw [show 2 * (b + a + d) - c = 2 * (a + b + d) - c by omega] at this
      exact (apB_iff _ _ _ _).2 this
    · rw [e3] at hx
      simp only [swL, e3, List.set_cons_succ, List.set_cons_zero]
      have := (hq.p14.swap1 (by omega)).p14
      rw [show 2 * (b + c + a) - d = 2 * (a + b + c) - d by omega] at this
      exact (apB_iff _ _ _ _).2 this
  · rw [decide_eq_false hx]
    cases hf : apB (swL [a, b, c, d] i)
    · rfl
    · exfalso
      apply hx
      have h2 : (swL [a, b, c, d] i).all (within (-100000) 100000) = true := by
        simp only [apB, Bool.and_eq_true] at hf
        exact hf.1.2
      have h3 := List.all_eq_true.1 h2 (swN [a, b, c, d] i) (by
        unfold swL
        have : i < [a, b, c, d].length := hi
        rw [List.mem_iff_getElem]
        exact ⟨i, by simpa using this, by simp⟩)
      simp [within] at h3
      exact h3.2

/-! ### the greatest number, and the way down -/

/-- the least index with a greatest number -/
def gTo (zs : List Int) : Nat → Nat
  | 0 => 0
  | k + 1 => if zs.getD (gTo zs k) 0 < zs.getD k 0 then k else gTo zs k
def gIx (zs : List Int) : Nat := gTo zs zs.length
theorem gTo_lt (zs : List Int) (k : Nat) (hk : 0 < k) : gTo zs k < k := by
  induction k with
  | zero => omega
  | succ k ih =>
    unfold gTo
    split
    · omega
    · by_cases h0 : k = 0
      · subst h0; simp [gTo]
      · have := ih (by omega); omega
theorem gTo_max (zs : List Int) (k : Nat) : ∀ j, j < k → zs.getD j 0 ≤ zs.getD (gTo zs k) 0 := by
  induction k with
  | zero => intro j hj; omega
  | succ k ih =>
    intro j hj
    unfold gTo
    split
    · by_cases e : j = k
      · subst e; omega
      · have := ih j (by omega); omega
    · by_cases e : j = k
      · subst e; omega
      · exact ih j (by omega)
theorem gTo_least (zs : List Int) (k : Nat) : ∀ j, j < gTo zs k → zs.getD j 0 < zs.getD (gTo zs k) 0 := by
  induction k with
  | zero => intro j hj; simp [gTo] at hj
  | succ k ih =>
    intro j hj
    unfold gTo at hj ⊢
    split
    · rename_i h
      rw [if_pos h] at hj
      have := gTo_max zs k j hj
      omega
    · rename_i h
      rw [if_neg h] at hj
      exact ih j hj
theorem gIx_eq {zs : List Int} {i : Nat} (hi : i < zs.length) (hm : ∀ j, j < zs.length → zs.getD j 0 ≤ zs.getD i 0) (hl : ∀ j, j < i → zs.getD j 0 < zs.getD i 0) : gIx zs = i := by
  have h1 := gTo_max zs zs.length i hi
  have h2 := gTo_lt zs zs.length (by omega)
  have h3 := hm (gTo zs zs.length) h2
  rcases Nat.lt_trichotomy (gTo zs zs.length) i with h | h | h
  · have := hl _ h; unfold gIx; omega
  · exact h
  · have := gTo_least zs zs.length i h; omega
/-- no swap makes the sum less -/
def lastQ (zs : List Int) : Bool := decide (zs.getD (gIx zs) 0 ≤ swN zs (gIx zs))
def nextQ (zs : List Int) : List Int := swL zs (gIx zs)
theorem gIx_lt {zs : List Int} (h : apB zs = true) : gIx zs < 4 := by
  obtain ⟨a, b, c, d, rfl, _⟩ := apB_four h
  exact gTo_lt _ _ (by simp)
theorem sum_setQ (zs : List Int) (i : Nat) (hi : i < zs.length) (x : Int) : (zs.set i x).sum = zs.sum - zs.getD i 0 + x := by
  have e : zs = zs.take i ++ zs[i] :: zs.drop (i + 1) := by simp
  have e2 : zs.sum = (zs.take i).sum + (zs[i] + (zs.drop (i + 1)).sum) := by
    conv => lhs; rw [e]
    rw [List.sum_append, List.sum_cons]
  rw [List.set_eq_take_append_cons_drop, if_pos hi, e2, show zs.getD i 0 = zs[i] by simp [hi]]
  rw [List.sum_append, List.sum_cons]; omega
theorem swL_len (zs : List Int) (i : Nat) : (swL zs i).length = zs.length := by simp [swL]
theorem swL_sum {zs : List Int} (i : Nat) (hi : i < zs.length) : (swL zs i).sum = zs.sum - zs.getD i 0 + swN zs i := sum_setQ zs i hi _
theorem apB_hlen {zs : List Int} (h : apB zs = true) : zs.length = 4 := by
  obtain ⟨a, b, c, d, rfl, _⟩ := apB_four h
  rfl
theorem apB_mem {zs : List Int} (h : apB zs = true) (i : Nat) (hi : i < 4) : -100000 ≤ zs.getD i 0 ∧ zs.getD i 0 ≤ 100000 := by
  have hl := apB_hlen h
  simp only [apB, Bool.and_eq_true] at h
  have := List.all_eq_true.1 h.1.2 (zs.getD i 0) (by simp [show i < zs.length by omega])
  simpa [within] using this
theorem apB_sum {zs : List Int} (h : apB zs = true) : 1 ≤ zs.sum ∧ zs.sum ≤ 400000 := by
  obtain ⟨a, b, c, d, rfl, hq⟩ := apB_four h
  rw [sum4]
  have := hq.hs; have := hq.ha; have := hq.hb; have := hq.hc; have := hq.hd
  omega
theorem nextQ_good {zs : List Int} (h : apB zs = true) (hl : lastQ zs = false) : apB (nextQ zs) = true ∧ (nextQ zs).sum < zs.sum := by
  have hx : swN zs (gIx zs) < zs.getD (gIx zs) 0 := by simpa [lastQ] using hl
  have hb := apB_mem h (gIx zs) (gIx_lt h)
  constructor
  · unfold nextQ
    rw [swL_good h _ (gIx_lt h)]
    exact decide_eq_true (by omega)
  · unfold nextQ
    rw [swL_sum _ (by rw [apB_hlen h]; exact gIx_lt h)]
    omega
/-- what is below a quad, downwards -/
def belowQF : Nat → List Int → List (List Int)
  | 0, _ => []
  | k + 1, zs => if lastQ zs = true then [] else nextQ zs :: belowQF k (nextQ zs)
def belowQ (zs : List Int) : List (List Int) := belowQF zs.sum.toNat zs
theorem belowQF_more (k : Nat) : ∀ (j : Nat) (zs : List Int), apB zs = true → zs.sum.toNat ≤ k → zs.sum.toNat ≤ j → belowQF k zs = belowQF j zs := by
  induction k with
  | zero => intro j zs h h1; have := apB_sum h; omega
  | succ k ih =>
    intro j zs h h1 h2
    have hb := apB_sum h
    cases j with
    | zero => omega
    | succ j =>
      unfold belowQF
      split
      · rfl
      · rename_i hz
        have hn := nextQ_good h (by simpa using hz)
        rw [ih j _ hn.1 (by omega) (by omega)]
theorem belowQ_last {zs : List Int} (hl : lastQ zs = true) : belowQ zs = [] := by
  unfold belowQ
  cases zs.sum.toNat with
  | zero => rfl
  | succ k => simp [belowQF, hl]
theorem belowQ_step {zs : List Int} (h : apB zs = true) (hl : lastQ zs = false) : belowQ zs = nextQ zs :: belowQ (nextQ zs) := by
  have hn := nextQ_good h hl
  have hb := apB_sum h
  unfold belowQ
  obtain ⟨k, hk⟩ : ∃ k, zs.sum.toNat = k + 1 := ⟨zs.sum.toNat - 1, by omega⟩
  rw [hk, belowQF, if_neg (by rw [hl]; simp), belowQF_more k (nextQ zs).sum.toNat _ hn.1 (by omega) (Nat.le_refl _)]
def wayQ (zs : List Int) : List (List Int) := zs :: belowQ zs
theorem belowQ_len (k : Nat) : ∀ zs : List Int, apB zs = true → zs.sum.toNat ≤ k → (belowQ zs).length + 1 ≤ k := by
  induction k with
  | zero => intro zs h h1; have := apB_sum h; omega
  | succ k ih =>
    intro zs h h1
    cases hl : lastQ zs
    · have hn := nextQ_good h hl
      rw [belowQ_step h hl]
      have := ih _ hn.1 (by omega)
      simp; omega
    · rw [belowQ_last hl]; simp
theorem wayQ_len {zs : List Int} (h : apB zs = true) : (wayQ zs).length ≤ 400000 := by
  have := belowQ_len _ zs h (Nat.le_refl _)
  have := apB_sum h
  simp [wayQ]; omega
theorem belowQ_good (k : Nat) : ∀ zs : List Int, apB zs = true → zs.sum.toNat ≤ k → ∀ q ∈ belowQ zs, apB q = true := by
  induction k with
  | zero => intro zs h h1; have := apB_sum h; omega
  | succ k ih =>
    intro zs h h1 q hq
    cases hl : lastQ zs
    · have hn := nextQ_good h hl
      rw [belowQ_step h hl] at hq
      rcases List.mem_cons.1 hq with rfl | hq
      · exact hn.1
      · exact ih _ hn.1 (by omega) q hq
    · rw [belowQ_last hl] at hq; simp at hq
theorem wayQ_good {zs : List Int} (h : apB zs = true) : ∀ q ∈ wayQ zs, apB q = true := by
  intro q hq
  rcases List.mem_cons.1 hq with rfl | hq
  · exact h
  · exact belowQ_good _ zs h (Nat.le_refl _) q hq

/-! ### answers -/

def downIx (zs : List Int) : Int := if lastQ zs = true then -1 else (gIx zs : Int)
def isRootAns (zs : List Int) : Option Bool := if apB zs = true then some (lastQ zs) else none
def downSwapAns (zs : List Int) : Option Int := if apB zs = true ∧ lastQ zs = false then some (gIx zs : Int) else none
def qwayAns (zs : List Int) : Option (List (List Int)) := if apB zs = true ∧ (wayQ zs).length ≤ 200 then some (wayQ zs) else none
def qwordL (zs : List Int) : List Int := (wayQ zs).dropLast.map fun q => (gIx q : Int)
def qwordAns (zs : List Int) : Option (List Int) := if apB zs = true ∧ (wayQ zs).length ≤ 200 then some (qwordL zs) else none
def sortQ (zs : List Int) : List Int := zs.mergeSort (fun a b => decide (a ≤ b))
def rootL (zs : List Int) : List Int := sortQ ((wayQ zs).getD ((wayQ zs).length - 1) [])
def rootQAns (zs : List Int) : Option (List Int) := if apB zs = true ∧ (wayQ zs).length ≤ 200 then some (rootL zs) else none
/-- behind a word of swaps -/
def followL : List Int → List Int → Option (List Int)
  | zs, [] => some zs
  | zs, i :: is => if swN zs i.toNat ≤ 100000 then followL (swL zs i.toNat) is else none
def followAns (zs word : List Int) : Option (List Int) := if apB zs = true ∧ word.length ≤ 200 ∧ word.all (within 0 3) = true then followL zs word else none
def swapAns (zs : List Int) (i : Int) : Option (List Int) := if apB zs = true ∧ within 0 3 i = true ∧ swN zs i.toNat ≤ 100000 then some (swL zs i.toNat) else none
end Go.Proofs.Ytoaopmafokoaoaa
