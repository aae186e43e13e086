/- Equations of Hurwitz: sorting downwards, jumps (arithmetic). -/
import Derived.Test.YtdahhcigphhfdadHu
namespace Go.Proofs.Ytdahhcigphhfdad
open Go.RowKit

abbrev Dn (zs : List Int) : Prop := zs.Pairwise fun a b => b ≤ a
def cntGe (x : Int) (out : List Int) : Nat := (out.takeWhile fun y => decide (x ≤ y)).length
def insD (out : List Int) (x : Int) : List Int := out.take (cntGe x out) ++ x :: out.drop (cntGe x out)
def sortD (zs : List Int) : List Int := zs.foldl insD []
theorem take_cntGe (x : Int) (out : List Int) : out.take (cntGe x out) = out.takeWhile fun y => decide (x ≤ y) := by
  unfold cntGe
  induction out with
  | nil => rfl
  | cons y ys ih => simp only [List.takeWhile_cons]; split <;> simp [ih]
theorem drop_cntGe (x : Int) (out : List Int) : out.drop (cntGe x out) = out.dropWhile fun y => decide (x ≤ y) := by
  unfold cntGe
  induction out with
  | nil => rfl
  | cons y ys ih => simp only [List.takeWhile_cons, List.dropWhile_cons]; split <;> simp [ih]
theorem insD_perm (out : List Int) (x : Int) : (insD out x).Perm (x :: out) := by
  unfold insD
  refine List.perm_middle.trans ?_
  rw [List.take_append_drop]
theorem mem_takeWhile' {p : Int → Bool} {zs : List Int} {y : Int} (h : y ∈ zs.takeWhile p) : p y = true := by
  induction zs with
  | nil => simp at h
  | cons z zs ih =>
    simp only [List.takeWhile_cons] at h
    split at h
    · rcases List.mem_cons.1 h with rfl | h
      · assumption
      · exact ih h
    · simp at h
theorem insD_dn {out : List Int} (x : Int) (h : Dn out) : Dn (insD out x) := by
  unfold insD
  have e : out.take (cntGe x out) ++ out.drop (cntGe x out) = out := List.take_append_drop _ _
  have h2 : Dn (out.take (cntGe x out) ++ out.drop (cntGe x out)) := by rw [e]; exact h
  rw [Dn, List.pairwise_append] at h2
  obtain ⟨p1, p2, p3⟩ := h2
  have q1 : ∀ y ∈ out.take (cntGe x out), x ≤ y := by
    intro y hy; rw [take_cntGe] at hy; simpa using mem_takeWhile' hy
  have q2 : ∀ y ∈ out.drop (cntGe x out), y ≤ x := by
    intro y hy
    rw [drop_cntGe] at hy p2
    clear q1 p3 p1 e
    generalize hd : out.dropWhile (fun y => decide (x ≤ y)) = ds at hy p2
    cases ds with
    | nil => simp at hy
    | cons d ds =>
      have h1 : ¬ x ≤ d := by
        have := List.head_dropWhile_not (p := fun y => decide (x ≤ y)) (l := out) (by rw [hd]; simp)
        simp only [hd, List.head_cons] at this
        simpa using this
      rcases List.mem_cons.1 hy with rfl | hy
      · omega
      · have := (List.pairwise_cons.1 p2).1 y hy; omega
  rw [Dn, List.pairwise_append]
  refine ⟨p1, List.pairwise_cons.2 ⟨fun y hy => q2 y hy, p2⟩, ?_⟩
  intro a ha b hb
  rcases List.mem_cons.1 hb with rfl | hb
  · exact q1 a ha
  · exact p3 a ha b hb
theorem foldl_insD (zs : List Int) : ∀ out, Dn out → Dn (zs.foldl insD out) ∧ (zs.foldl insD out).Perm (zs ++ out) := by
  induction zs with
  | nil => intro out h; exact ⟨h, List.Perm.refl _⟩
  | cons z zs ih =>
    intro out h
    obtain ⟨h1, h2⟩ := ih _ (insD_dn z h)
    refine ⟨h1, h2.trans ?_⟩
    refine (List.Perm.append_left zs (insD_perm out z)).trans ?_
    exact List.perm_middle
theorem sortD_dn (zs : List Int) : Dn (sortD zs) := (foldl_insD zs [] List.Pairwise.nil).1
theorem sortD_perm (zs : List Int) : (sortD zs).Perm zs := by have := (foldl_insD zs [] List.Pairwise.nil).2; simpa [sortD] using this
theorem dn_unique {xs ys : List Int} (h1 : Dn xs) (h2 : Dn ys) (h : xs.Perm ys) : xs = ys :=
  List.Perm.eq_of_pairwise (le := fun a b => b ≤ a) (fun a b _ _ h1 h2 => by omega) h1 h2 h
theorem sortD_of {xs ys : List Int} (h1 : Dn xs) (h : xs.Perm ys) : sortD ys = xs :=
  dn_unique (sortD_dn ys) h1 ((sortD_perm ys).trans h.symm)
theorem sortD_len (zs : List Int) : (sortD zs).length = zs.length := (sortD_perm zs).length_eq
theorem sortD_snoc (zs : List Int) (x : Int) : sortD (zs ++ [x]) = insD (sortD zs) x := by simp [sortD]
/-- a 0 behind positive numbers stays behind them -/
theorem sortD_zero {zs : List Int} (h : In5 zs) : sortD (zs ++ [0]) = sortD zs ++ [0] := by
  refine sortD_of ?_ ((sortD_perm zs).append_right [0])
  rw [Dn, List.pairwise_append]
  refine ⟨sortD_dn zs, by simp, ?_⟩
  intro a ha b hb
  have := h a ((sortD_perm zs).mem_iff.1 ha)
  simp at hb
  omega
theorem prodL_perm {xs ys : List Int} (h : xs.Perm ys) : prodL xs = prodL ys := by
  induction h with
  | nil => rfl
  | cons x _ ih => rw [prodL_cons, prodL_cons, ih]
  | swap x y l => simp only [prodL_cons]; grind
  | trans _ _ ih1 ih2 => rw [ih1, ih2]
theorem sqs_perm {xs ys : List Int} (h : xs.Perm ys) : sqs xs = sqs ys := by
  induction h with
  | nil => rfl
  | cons x _ ih => rw [sqs_cons, sqs_cons, ih]
  | swap x y l => simp only [sqs_cons]; omega
  | trans _ _ ih1 ih2 => rw [ih1, ih2]
theorem fallB_iff {zs : List Int} : ∀ {m : Int}, m ≤ 100000 → (fallB m zs = true ↔ Dn zs ∧ ∀ z ∈ zs, 1 ≤ z ∧ z ≤ m) := by
  induction zs with
  | nil => intro m _; simp [fallB]
  | cons z zs ih =>
    intro m hm
    simp only [fallB, Bool.and_eq_true, decide_eq_true_eq]
    constructor
    · rintro ⟨⟨h1, h2⟩, h3⟩
      have h4 := (ih (by omega)).1 h3
      refine ⟨List.pairwise_cons.2 ⟨fun y hy => (h4.2 y hy).2, h4.1⟩, ?_⟩
      intro y hy
      rcases List.mem_cons.1 hy with rfl | hy
      · omega
      · have := h4.2 y hy; omega
    · rintro ⟨h1, h2⟩
      have h3 := List.pairwise_cons.1 h1
      have hz := h2 z (by simp)
      exact ⟨⟨hz.1, hz.2⟩, (ih (by omega)).2 ⟨h3.2, fun y hy => ⟨(h2 y (by simp [hy])).1, h3.1 y hy⟩⟩⟩
/-- what is behind a jump -/
def jumpL (a : Int) (zs : List Int) (i : Nat) : Option (List Int) := if within 1 100000 (othL a zs i) = true then some (sortD (zs.set i (othL a zs i))) else none
theorem set_in5 {zs : List Int} (h : In5 zs) (i : Nat) {x : Int} (hx : 1 ≤ x ∧ x ≤ 100000) : In5 (zs.set i x) := by
  intro z hz
  rcases List.mem_or_eq_of_mem_set hz with h1 | rfl
  · exact h z h1
  · exact hx
theorem within5 {x : Int} : within 1 100000 x = true ↔ 1 ≤ x ∧ x ≤ 100000 := by simp [within]
theorem Sol.jump {zs : List Int} {a b : Int} (h : Sol zs a b) {i : Nat} (hi : i < zs.length) {ys : List Int} (hj : jumpL a zs i = some ys) : Sol ys a b := by
  unfold jumpL at hj
  split at hj
  · rename_i hw
    simp only [Option.some.injEq] at hj
    subst hj
    have hw := within5.1 hw
    have hin := set_in5 h.in5 i hw
    have hp := sortD_perm (zs.set i (othL a zs i))
    refine ⟨h.ha, h.hb, ?_, ?_, ?_⟩
    · rw [sortD_len, List.length_set]; exact h.hl
    · rw [fallB_iff (by omega)]
      exact ⟨sortD_dn _, fun z hz => hin z (hp.mem_iff.1 hz)⟩
    · rw [sqs_perm hp, prodL_perm hp]; exact h.eq_set i hi
  · simp at hj
theorem Sol.jump_len {zs : List Int} {a : Int} {i : Nat} {ys : List Int} (hj : jumpL a zs i = some ys) : ys.length = zs.length := by
  unfold jumpL at hj
  split at hj
  · simp only [Option.some.injEq] at hj
    subst hj
    rw [sortD_len, List.length_set]
  · simp at hj
def sumL (zs : List Int) : Int := zs.sum
theorem sum_perm {xs ys : List Int} (h : xs.Perm ys) : sumL xs = sumL ys := by
  unfold sumL
  induction h with
  | nil => rfl
  | cons x _ ih => simp [ih]
  | swap x y l => simp; omega
  | trans _ _ ih1 ih2 => rw [ih1, ih2]
theorem sum_set (zs : List Int) (i : Nat) (hi : i < zs.length) (x : Int) : sumL (zs.set i x) = sumL zs - zs.getD i 0 + x := by
  have e : zs = zs.take i ++ zs[i] :: zs.drop (i + 1) := by simp
  have e2 : sumL zs = sumL (zs.take i) + (zs[i] + sumL (zs.drop (i + 1))) := by
    conv => lhs; rw [e]
    unfold sumL
    rw [List.sum_append, List.sum_cons]
  rw [List.set_eq_take_append_cons_drop, if_pos hi, e2, show zs.getD i 0 = zs[i] by simp [hi]]
  unfold sumL
  rw [List.sum_append, List.sum_cons]; omega
theorem jump_sum {zs : List Int} {a : Int} {i : Nat} (hi : i < zs.length) {ys : List Int} (hj : jumpL a zs i = some ys) : sumL ys = sumL zs - zs.getD i 0 + othL a zs i := by
  unfold jumpL at hj
  split at hj
  · simp only [Option.some.injEq] at hj
    subst hj
    rw [sum_perm (sortD_perm _), sum_set zs i hi]
  · simp at hj
/-- the way down -/
def lastB (a : Int) (zs : List Int) : Bool := !within 1 (zs.getD 0 0 - 1) (othL a zs 0)
def nextD (a : Int) (zs : List Int) : List Int := sortD (zs.set 0 (othL a zs 0))
theorem Sol.next {zs : List Int} {a b : Int} (h : Sol zs a b) (hl : lastB a zs = false) : jumpL a zs 0 = some (nextD a zs) ∧ Sol (nextD a zs) a b ∧ sumL (nextD a zs) < sumL zs ∧ 1 ≤ sumL (nextD a zs) := by
  have h0 : 0 < zs.length := by have := h.hl; omega
  have hw : 1 ≤ othL a zs 0 ∧ othL a zs 0 ≤ zs.getD 0 0 - 1 := by simpa [lastB, within] using hl
  have hz := h.in5 (zs.getD 0 0) (by simp [h0])
  have hj : jumpL a zs 0 = some (nextD a zs) := by
    unfold jumpL
    rw [if_pos (within5.2 (by omega))]; rfl
  have hs := jump_sum h0 hj
  have hS := h.jump h0 hj
  refine ⟨hj, hS, by omega, ?_⟩
  have hl2 := hS.hl
  have hin := hS.in5
  generalize nextD a zs = ys at *
  match ys, hl2 with
  | y :: ys, _ =>
    have h1 := hin y (by simp)
    have h2 : 0 ≤ sumL ys := by
      unfold sumL
      have h3 : ∀ l : List Int, In5 l → 0 ≤ l.sum := by
        intro l
        induction l with
        | nil => intro _; simp
        | cons z l ih => intro hl; have := ih hl.tail; have := hl z (by simp); simp; omega
      exact h3 ys hin.tail
    have e : sumL (y :: ys) = y + sumL ys := by simp [sumL]
    omega
theorem Sol.sum_bd {zs : List Int} {a b : Int} (h : Sol zs a b) : 1 ≤ sumL zs ∧ sumL zs ≤ 400000 := by
  have hl := h.hl
  have hin := h.in5
  clear h
  match zs, hl with
  | [x, y, z], _ => have := hin x (by simp); have := hin y (by simp); have := hin z (by simp); simp [sumL]; omega
  | [x, y, z, t], _ => have := hin x (by simp); have := hin y (by simp); have := hin z (by simp); have := hin t (by simp); simp [sumL]; omega
/-- what is below a solution, downwards -/
def belowF (a : Int) : Nat → List Int → List (List Int)
  | 0, _ => []
  | k + 1, zs => if lastB a zs = true then [] else nextD a zs :: belowF a k (nextD a zs)
def belowL (a : Int) (zs : List Int) : List (List Int) := belowF a (sumL zs).toNat zs
theorem belowF_more {a b : Int} (k : Nat) : ∀ (j : Nat) (zs : List Int), Sol zs a b → (sumL zs).toNat ≤ k → (sumL zs).toNat ≤ j → belowF a k zs = belowF a j zs := by
  induction k with
  | zero => intro j zs h h1; have := h.sum_bd; omega
  | succ k ih =>
    intro j zs h h1 h2
    have hb := h.sum_bd
    cases j with
    | zero => omega
    | succ j =>
      unfold belowF
      split
      · rfl
      · rename_i hz
        have hn := h.next (by simpa using hz)
        rw [ih j _ hn.2.1 (by omega) (by omega)]
theorem belowL_last {a : Int} {zs : List Int} (hl : lastB a zs = true) : belowL a zs = [] := by
  unfold belowL
  cases (sumL zs).toNat with
  | zero => rfl
  | succ k => simp [belowF, hl]
theorem belowL_step {zs : List Int} {a b : Int} (h : Sol zs a b) (hl : lastB a zs = false) : belowL a zs = nextD a zs :: belowL a (nextD a zs) := by
  have hn := h.next hl
  have hb := h.sum_bd
  unfold belowL
  obtain ⟨k, hk⟩ : ∃ k, (sumL zs).toNat = k + 1 := ⟨(sumL zs).toNat - 1, by omega⟩
  rw [hk, belowF, if_neg (by rw [hl]; simp), belowF_more k (sumL (nextD a zs)).toNat _ hn.2.1 (by omega) (Nat.le_refl _)]
def wayL (a : Int) (zs : List Int) : List (List Int) := zs :: belowL a zs
theorem belowL_len {a b : Int} (k : Nat) : ∀ zs : List Int, Sol zs a b → (sumL zs).toNat ≤ k → (belowL a zs).length + 1 ≤ k := by
  induction k with
  | zero => intro zs h h1; have := h.sum_bd; omega
  | succ k ih =>
    intro zs h h1
    cases hl : lastB a zs
    · have hn := h.next hl
      rw [belowL_step h hl]
      have := ih _ hn.2.1 (by omega)
      simp; omega
    · rw [belowL_last hl]; simp
theorem Sol.way_len {zs : List Int} {a b : Int} (h : Sol zs a b) : (wayL a zs).length ≤ 400000 := by
  have := belowL_len _ zs h (Nat.le_refl _)
  have := h.sum_bd
  simp [wayL]; omega
end Go.Proofs.Ytdahhcigphhfdad
