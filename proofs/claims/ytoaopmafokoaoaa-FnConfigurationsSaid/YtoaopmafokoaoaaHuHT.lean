/- Hu, HuT, HuBk: in one text. -/
import Derived.Test.YtoaopmafokoaoaaMk
namespace Go.Proofs.Ytoaopmafokoaoaa
open Go.RowKit


def prodL (zs : List Int) : Int := zs.foldr (fun x y => x * y) 1
def sqs (zs : List Int) : Int := (zs.map fun z => z * z).sum
def capP (a : Int) (zs : List Int) : Int := zs.foldl (fun o x => leastI (o * x) 1000000000000) a
def fallB : Int → List Int → Bool
  | _, [] => true
  | m, z :: zs => decide (1 ≤ z) && decide (z ≤ m) && fallB z zs
def In5 (zs : List Int) : Prop := ∀ z ∈ zs, 1 ≤ z ∧ z ≤ 100000
theorem prodL_nil : prodL [] = 1 := rfl
theorem prodL_cons (z : Int) (zs : List Int) : prodL (z :: zs) = z * prodL zs := rfl
theorem prodL_append (xs ys : List Int) : prodL (xs ++ ys) = prodL xs * prodL ys := by
  induction xs with
  | nil => simp [prodL_nil]
  | cons x xs ih => rw [List.cons_append, prodL_cons, prodL_cons, ih, Int.mul_assoc]
theorem prodL_snoc (xs : List Int) (y : Int) : prodL (xs ++ [y]) = prodL xs * y := by rw [prodL_append, prodL_cons, prodL_nil, Int.mul_one]
theorem In5.pos {zs : List Int} (h : In5 zs) : 1 ≤ prodL zs := by
  induction zs with
  | nil => simp [prodL_nil]
  | cons z zs ih =>
    have h1 := ih fun x hx => h x (by simp [hx])
    have h2 := (h z (by simp)).1
    rw [prodL_cons]
    have := Int.mul_le_mul h2 h1 (by omega) (by omega)
    omega
theorem In5.tail {z : Int} {zs : List Int} (h : In5 (z :: zs)) : In5 zs := fun x hx => h x (by simp [hx])
theorem In5.take {zs : List Int} (h : In5 zs) (k : Nat) : In5 (zs.take k) := fun x hx => h x (List.mem_of_mem_take hx)
theorem In5.drop {zs : List Int} (h : In5 zs) (k : Nat) : In5 (zs.drop k) := fun x hx => h x (List.mem_of_mem_drop hx)
theorem In5.erase {zs : List Int} (h : In5 zs) (k : Nat) : In5 (zs.eraseIdx k) := fun x hx => h x (List.mem_of_mem_eraseIdx hx)
theorem least_le (a b : Int) : leastI a b ≤ b := by unfold leastI; split <;> omega
theorem least_pos {a b : Int} (ha : 1 ≤ a) (hb : 1 ≤ b) : 1 ≤ leastI a b := by unfold leastI; split <;> omega
theorem capP_bd (zs : List Int) : ∀ a, 1 ≤ a → a ≤ 1000000000000 → In5 zs → 1 ≤ capP a zs ∧ capP a zs ≤ 1000000000000 := by
  induction zs with
  | nil => intro a h1 h2 _; exact ⟨h1, h2⟩
  | cons z zs ih =>
    intro a h1 h2 h
    have hz := h z (by simp)
    have hm : 1 ≤ a * z := by have := Int.mul_le_mul h1 hz.1 (by omega) (by omega); omega
    exact ih _ (least_pos hm (by omega)) (least_le _ _) h.tail
theorem capP_eq (zs : List Int) : ∀ a, 1 ≤ a → a ≤ 1000000000000 → In5 zs → capP a zs = leastI (a * prodL zs) 1000000000000 := by
  induction zs with
  | nil => intro a h1 h2 _; rw [prodL_nil, Int.mul_one]; unfold capP leastI; simp; omega
  | cons z zs ih =>
    intro a h1 h2 h
    have hz := h z (by simp)
    have hp := h.tail.pos
    have hm : 1 ≤ a * z := by have := Int.mul_le_mul h1 hz.1 (by omega) (by omega); omega
    have e : capP a (z :: zs) = capP (leastI (a * z) 1000000000000) zs := rfl
    rw [e, ih _ (least_pos hm (by omega)) (least_le _ _) h.tail, prodL_cons, ← Int.mul_assoc]
    by_cases hl : a * z < 1000000000000
    · rw [show leastI (a * z) 1000000000000 = a * z from if_pos hl]
    · rw [show leastI (a * z) 1000000000000 = 1000000000000 from if_neg hl]
      have h3 : 1000000000000 ≤ a * z * prodL zs := by
        have := Int.mul_le_mul (show (1000000000000 : Int) ≤ a * z by omega) hp (by omega) (by omega); omega
      have h4 : 1000000000000 ≤ 1000000000000 * prodL zs := by omega
      unfold leastI
      rw [if_neg (by omega), if_neg (by omega)]
theorem capP_snoc (a : Int) (zs : List Int) (z : Int) : capP a (zs ++ [z]) = leastI (capP a zs * z) 1000000000000 := by simp [capP]
theorem sqs_snoc (zs : List Int) (z : Int) : sqs (zs ++ [z]) = sqs zs + z * z := by simp [sqs]
theorem sqs_append (xs ys : List Int) : sqs (xs ++ ys) = sqs xs + sqs ys := by simp [sqs]
theorem sqs_cons (x : Int) (xs : List Int) : sqs (x :: xs) = x * x + sqs xs := by simp [sqs]
theorem sqs_bd {zs : List Int} (h : In5 zs) : 0 ≤ sqs zs ∧ sqs zs ≤ 10000000000 * zs.length := by
  induction zs with
  | nil => simp [sqs]
  | cons z zs ih =>
    have hz := h z (by simp)
    have h1 : 1 ≤ z * z := by have := Int.mul_le_mul hz.1 hz.1 (by omega) (by omega); omega
    have h2 : z * z ≤ 10000000000 := by have := Int.mul_le_mul hz.2 hz.2 (by omega) (by omega); omega
    have h3 := ih h.tail
    have e : sqs (z :: zs) = z * z + sqs zs := by simp [sqs]
    rw [e]; simp; omega

def givenB (a b : Int) : Bool := within 1 20 a && within (-50) 50 b
def lenB (zs : List Int) : Bool := within 3 4 (zs.length : Int)
def solB (zs : List Int) (a b : Int) : Bool := lenB zs && fallB 100000 zs && decide (sqs zs = a * prodL zs + b)
/-- Numbers that are a solution for a factor and a rest in their limits. -/
structure Sol (zs : List Int) (a b : Int) : Prop where
  ha : 1 ≤ a ∧ a ≤ 20
  hb : -50 ≤ b ∧ b ≤ 50
  hl : zs.length = 3 ∨ zs.length = 4
  hf : fallB 100000 zs = true
  he : sqs zs = a * prodL zs + b
theorem fallB_in5 {zs : List Int} : ∀ {m : Int}, m ≤ 100000 → fallB m zs = true → In5 zs := by
  induction zs with
  | nil => intro m _ _ x hx; simp at hx
  | cons z zs ih =>
    intro m hm h x hx
    simp only [fallB, Bool.and_eq_true, decide_eq_true_eq] at h
    rcases List.mem_cons.1 hx with rfl | hx
    · omega
    · exact ih (by omega) h.2 x hx
theorem givenB_iff {a b : Int} : givenB a b = true ↔ (1 ≤ a ∧ a ≤ 20) ∧ (-50 ≤ b ∧ b ≤ 50) := by simp [givenB, within]
theorem lenB_iff {zs : List Int} : lenB zs = true ↔ (zs.length = 3 ∨ zs.length = 4) := by simp only [lenB, within, Bool.and_eq_true, decide_eq_true_eq]; omega
theorem Sol.of {zs : List Int} {a b : Int} (hg : givenB a b = true) (h : solB zs a b = true) : Sol zs a b := by
  have hg := givenB_iff.1 hg
  simp only [solB, Bool.and_eq_true, decide_eq_true_eq] at h
  exact ⟨hg.1, hg.2, lenB_iff.1 h.1.1, h.1.2, h.2⟩
theorem Sol.given {zs : List Int} {a b : Int} (h : Sol zs a b) : givenB a b = true := givenB_iff.2 ⟨h.ha, h.hb⟩
theorem Sol.sol {zs : List Int} {a b : Int} (h : Sol zs a b) : solB zs a b = true := by
  simp only [solB, Bool.and_eq_true, decide_eq_true_eq]
  exact ⟨⟨lenB_iff.2 h.hl, h.hf⟩, h.he⟩
theorem Sol.in5 {zs : List Int} {a b : Int} (h : Sol zs a b) : In5 zs := fallB_in5 (by omega) h.hf
theorem In5.sq4 {zs : List Int} (h : In5 zs) (hl : zs.length = 3 ∨ zs.length = 4) : 0 ≤ sqs zs ∧ sqs zs ≤ 40000000000 := by
  have := sqs_bd h; omega
/-- the model's test, with its bound on products -/
theorem cap_test {zs : List Int} {a b : Int} (ha : 1 ≤ a ∧ a ≤ 20) (hb : -50 ≤ b ∧ b ≤ 50) (hl : zs.length = 3 ∨ zs.length = 4) (h : In5 zs) :
    (sqs zs == capP a zs + b) = decide (sqs zs = a * prodL zs + b) := by
  have hs := h.sq4 hl
  have hp := h.pos
  rw [capP_eq zs a ha.1 (by omega) h]
  show decide (sqs zs = leastI (a * prodL zs) 1000000000000 + b) = _
  apply decide_eq_decide.2
  unfold leastI
  split <;> omega
/-- the program's test: it divides by one after the other -/
def facL : Int → List Int → Int
  | f, [] => f
  | f, z :: zs => if f.tmod z = 0 then facL (f.tdiv z) zs else 0
theorem facL_eq (zs : List Int) (a : Int) (ha : a ≠ 0) : ∀ f, In5 zs → (facL f zs = a ↔ f = a * prodL zs) := by
  induction zs with
  | nil => intro f _; simp [facL, prodL_nil]
  | cons z zs ih =>
    intro f h
    have hz := (h z (by simp)).1
    simp only [facL]
    by_cases hd : f.tmod z = 0
    · rw [if_pos hd, ih _ h.tail, prodL_cons]
      have h1 := Int.mul_tdiv_add_tmod f z
      rw [hd, Int.add_zero] at h1
      constructor
      · intro h2; rw [← h1, h2]; grind
      · intro h2
        have h3 : z * f.tdiv z = z * (a * prodL zs) := by rw [h1, h2]; grind
        exact Int.eq_of_mul_eq_mul_left (by omega) h3
    · rw [if_neg hd]
      constructor
      · intro h2; exact absurd h2.symm ha
      · intro h2
        exfalso
        apply hd
        rw [h2, prodL_cons, show a * (z * prodL zs) = z * (a * prodL zs) by grind]
        exact Int.mul_tmod_right _ _
/-- the other root for an index -/
def restP (a : Int) (zs : List Int) (i : Nat) : Int := a * prodL (zs.eraseIdx i)
def othL (a : Int) (zs : List Int) (i : Nat) : Int := restP a zs i - zs.getD i 0
theorem prodL_erase (zs : List Int) (i : Nat) (hi : i < zs.length) : prodL zs = zs.getD i 0 * prodL (zs.eraseIdx i) := by
  rw [List.eraseIdx_eq_take_drop_succ, prodL_append]
  have e : zs = zs.take i ++ zs[i] :: zs.drop (i + 1) := by simp
  have e2 : prodL zs = prodL (zs.take i) * (zs[i] * prodL (zs.drop (i + 1))) := by
    conv => lhs; rw [e]
    rw [prodL_append, prodL_cons]
  rw [e2, show zs.getD i 0 = zs[i] by simp [hi]]
  grind
theorem Sol.rest_bd {zs : List Int} {a b : Int} (h : Sol zs a b) (i : Nat) (hi : i < zs.length) : 1 ≤ restP a zs i ∧ restP a zs i ≤ 40000000050 := by
  have hs := h.in5.sq4 h.hl
  have hp := (h.in5.erase i).pos
  have he := h.he
  have hz := h.in5 (zs.getD i 0) (by simp [hi])
  have ha := h.ha
  have hb := h.hb
  unfold restP
  have h1 : 1 ≤ a * prodL (zs.eraseIdx i) := by have := Int.mul_le_mul ha.1 hp (by omega) (by omega); omega
  have h2 : a * prodL zs = zs.getD i 0 * (a * prodL (zs.eraseIdx i)) := by rw [prodL_erase zs i hi]; grind
  have h3 : a * prodL (zs.eraseIdx i) ≤ zs.getD i 0 * (a * prodL (zs.eraseIdx i)) := by
    have := Int.mul_le_mul_of_nonneg_right hz.1 (show 0 ≤ a * prodL (zs.eraseIdx i) by omega); omega
  omega
theorem Sol.cap_rest {zs : List Int} {a b : Int} (h : Sol zs a b) (i : Nat) (hi : i < zs.length) : capP a (zs.eraseIdx i) = restP a zs i := by
  have := h.rest_bd i hi
  rw [capP_eq _ a h.ha.1 (by have := h.ha; omega) (h.in5.erase i)]
  unfold restP at *
  unfold leastI
  rw [if_pos (by omega)]
/-- with the other root in its place the equation holds again -/
theorem sqs_set (zs : List Int) (i : Nat) (hi : i < zs.length) (x : Int) : sqs (zs.set i x) = sqs zs - zs.getD i 0 * zs.getD i 0 + x * x := by
  have e : zs = zs.take i ++ zs[i] :: zs.drop (i + 1) := by simp
  have e2 : sqs zs = sqs (zs.take i) + (zs[i] * zs[i] + sqs (zs.drop (i + 1))) := by
    conv => lhs; rw [e]
    rw [sqs_append, sqs_cons]
  rw [List.set_eq_take_append_cons_drop, if_pos hi, e2, show zs.getD i 0 = zs[i] by simp [hi]]
  rw [sqs_append, sqs_cons]; omega
theorem prodL_set (zs : List Int) (i : Nat) (hi : i < zs.length) (x : Int) : prodL (zs.set i x) = x * prodL (zs.eraseIdx i) := by
  rw [List.set_eq_take_append_cons_drop, if_pos hi, List.eraseIdx_eq_take_drop_succ, prodL_append, prodL_append, prodL_cons]
  grind
theorem Sol.eq_set {zs : List Int} {a b : Int} (h : Sol zs a b) (i : Nat) (hi : i < zs.length) : sqs (zs.set i (othL a zs i)) = a * prodL (zs.set i (othL a zs i)) + b := by
  have he := h.he
  rw [prodL_erase zs i hi] at he
  rw [sqs_set zs i hi, prodL_set zs i hi]
  unfold othL restP
  grind


abbrev Dn (zs : List Int) : Prop := zs.Pairwise fun a b => b ≤ a
def cntGe (x : Int) (out : List Int) : Nat := (out.takeWhile fun y => decide (x ≤ y)).length
def insD (out : List Int) (x : Int) : List Int := out.take (cntGe x out) ++ x :: out.drop (cntGe x out)
def sortD (zs : List Int) : List Int := zs.foldl insD []
theorem take_cntGe (x : Int) (out : List Int) : out.take (cntGe x out) = out.takeWhile fun y => decide (x ≤ y) := by
  unfold cntGe
  induction out with
  | nil => rfl
  | cons y ys ih => simp only [List.takeWhile_cons]; split <;> simp [ih]
theorem drop_cntGe (x : Int) (out : List Int) : out.drop (cntGe x out) = out.dropWhile fun y => decide (x ≤ y) := by
  unfold cntGe
  induction out with
  | nil => rfl
  | cons y ys ih => simp only [List.takeWhile_cons, List.dropWhile_cons]; split <;> simp [ih]
theorem insD_perm (out : List Int) (x : Int) : (insD out x).Perm (x :: out) := by
  unfold insD
  refine List.perm_middle.trans ?_
  rw [List.take_append_drop]
theorem mem_takeWhile' {p : Int → Bool} {zs : List Int} {y : Int} (h : y ∈ zs.takeWhile p) : p y = true := by
  induction zs with
  | nil => simp at h
  | cons z zs ih =>
    simp only [List.takeWhile_cons] at h
    split at h
    · rcases List.mem_cons.1 h with rfl | h
      · assumption
      · exact ih h
    · simp at h
theorem insD_dn {out : List Int} (x : Int) (h : Dn out) : Dn (insD out x) := by
  unfold insD
  have e : out.take (cntGe x out) ++ out.drop (cntGe x out) = out := List.take_append_drop _ _
  have h2 : Dn (out.take (cntGe x out) ++ out.drop (cntGe x out)) := by rw [e]; exact h
  rw [Dn, List.pairwise_append] at h2
  obtain ⟨p1, p2, p3⟩ := h2
  have q1 : ∀ y ∈ out.take (cntGe x out), x ≤ y := by
    intro y hy; rw [take_cntGe] at hy; simpa using mem_takeWhile' hy
  have q2 : ∀ y ∈ out.drop (cntGe x out), y ≤ x := by
    intro y hy
    rw [drop_cntGe] at hy p2
    clear q1 p3 p1 e
    generalize hd : out.dropWhile (fun y => decide (x ≤ y)) = ds at hy p2
    cases ds with
    | nil => simp at hy
    | cons d ds =>
      have h1 : ¬ x ≤ d := by
        have := List.head_dropWhile_not (p := fun y => decide (x ≤ y)) (l := out) (by rw [hd]; simp)
        simp only [hd, List.head_cons] at this
        simpa using this
      rcases List.mem_cons.1 hy with rfl | hy
      · omega
      · have := (List.pairwise_cons.1 p2).1 y hy; omega
  rw [Dn, List.pairwise_append]
  refine ⟨p1, List.pairwise_cons.2 ⟨fun y hy => q2 y hy, p2⟩, ?_⟩
  intro a ha b hb
  rcases List.mem_cons.1 hb with rfl | hb
  · exact q1 a ha
  · exact p3 a ha b hb
theorem foldl_insD (zs : List Int) : ∀ out, Dn out → Dn (zs.foldl insD out) ∧ (zs.foldl insD out).Perm (zs ++ out) := by
  induction zs with
  | nil => intro out h; exact ⟨h, List.Perm.refl _⟩
  | cons z zs ih =>
    intro out h
    obtain ⟨h1, h2⟩ := ih _ (insD_dn z h)
    refine ⟨h1, h2.trans ?_⟩
    refine (List.Perm.append_left zs (insD_perm out z)).trans ?_
    exact List.perm_middle
theorem sortD_dn (zs : List Int) : Dn (sortD zs) := (foldl_insD zs [] List.Pairwise.nil).1
theorem sortD_perm (zs : List Int) : (sortD zs).Perm zs := by have := (foldl_insD zs [] List.Pairwise.nil).2; simpa [sortD] using this
theorem dn_unique {xs ys : List Int} (h1 : Dn xs) (h2 : Dn ys) (h : xs.Perm ys) : xs = ys :=
  List.Perm.eq_of_pairwise (le := fun a b => b ≤ a) (fun a b _ _ h1 h2 => by omega) h1 h2 h
theorem sortD_of {xs ys : List Int} (h1 : Dn xs) (h : xs.Perm ys) : sortD ys = xs :=
  dn_unique (sortD_dn ys) h1 ((sortD_perm ys).trans h.symm)
theorem sortD_len (zs : List Int) : (sortD zs).length = zs.length := (sortD_perm zs).length_eq
theorem sortD_snoc (zs : List Int) (x : Int) : sortD (zs ++ [x]) = insD (sortD zs) x := by simp [sortD]
/-- a 0 behind positive numbers stays behind them -/
theorem sortD_zero {zs : List Int} (h : In5 zs) : sortD (zs ++ [0]) = sortD zs ++ [0] := by
  refine sortD_of ?_ ((sortD_perm zs).append_right [0])
  rw [Dn, List.pairwise_append]
  refine ⟨sortD_dn zs, by simp, ?_⟩
  intro a ha b hb
  have := h a ((sortD_perm zs).mem_iff.1 ha)
  simp at hb
  omega
theorem prodL_perm {xs ys : List Int} (h : xs.Perm ys) : prodL xs = prodL ys := by
  induction h with
  | nil => rfl
  | cons x _ ih => rw [prodL_cons, prodL_cons, ih]
  | swap x y l => simp only [prodL_cons]; grind
  | trans _ _ ih1 ih2 => rw [ih1, ih2]
theorem sqs_perm {xs ys : List Int} (h : xs.Perm ys) : sqs xs = sqs ys := by
  induction h with
  | nil => rfl
  | cons x _ ih => rw [sqs_cons, sqs_cons, ih]
  | swap x y l => simp only [sqs_cons]; omega
  | trans _ _ ih1 ih2 => rw [ih1, ih2]
theorem fallB_iff {zs : List Int} : ∀ {m : Int}, m ≤ 100000 → (fallB m zs = true ↔ Dn zs ∧ ∀ z ∈ zs, 1 ≤ z ∧ z ≤ m) := by
  induction zs with
  | nil => intro m _; simp [fallB]
  | cons z zs ih =>
    intro m hm
    simp only [fallB, Bool.and_eq_true, decide_eq_true_eq]
    constructor
    · rintro ⟨⟨h1, h2⟩, h3⟩
      have h4 := (ih (by omega)).1 h3
      refine ⟨List.pairwise_cons.2 ⟨fun y hy => (h4.2 y hy).2, h4.1⟩, ?_⟩
      intro y hy
      rcases List.mem_cons.1 hy with rfl | hy
      · omega
      · have := h4.2 y hy; omega
    · rintro ⟨h1, h2⟩
      have h3 := List.pairwise_cons.1 h1
      have hz := h2 z (by simp)
      exact ⟨⟨hz.1, hz.2⟩, (ih (by omega)).2 ⟨h3.2, fun y hy => ⟨(h2 y (by simp [hy])).1, h3.1 y hy⟩⟩⟩
/-- what is behind a jump -/
def jumpL (a : Int) (zs : List Int) (i : Nat) : Option (List Int) := if within 1 100000 (othL a zs i) = true then some (sortD (zs.set i (othL a zs i))) else none
theorem set_in5 {zs : List Int} (h : In5 zs) (i : Nat) {x : Int} (hx : 1 ≤ x ∧ x ≤ 100000) : In5 (zs.set i x) := by
  intro z hz
  rcases List.mem_or_eq_of_mem_set hz with h1 | rfl
  · exact h z h1
  · exact hx
theorem within5 {x : Int} : within 1 100000 x = true ↔ 1 ≤ x ∧ x ≤ 100000 := by simp [within]
theorem Sol.jump {zs : List Int} {a b : Int} (h : Sol zs a b) {i : Nat} (hi : i < zs.length) {ys : List Int} (hj : jumpL a zs i = some ys) : Sol ys a b := by
  unfold jumpL at hj
  split at hj
  · rename_i hw
    simp only [Option.some.injEq] at hj
    subst hj
    have hw := within5.1 hw
    have hin := set_in5 h.in5 i hw
    have hp := sortD_perm (zs.set i (othL a zs i))
    refine ⟨h.ha, h.hb, ?_, ?_, ?_⟩
    · rw [sortD_len, List.length_set]; exact h.hl
    · rw [fallB_iff (by omega)]
      exact ⟨sortD_dn _, fun z hz => hin z (hp.mem_iff.1 hz)⟩
    · rw [sqs_perm hp, prodL_perm hp]; exact h.eq_set i hi
  · simp at hj
theorem Sol.jump_len {zs : List Int} {a : Int} {i : Nat} {ys : List Int} (hj : jumpL a zs i = some ys) : ys.length = zs.length := by
  unfold jumpL at hj
  split at hj
  · simp only [Option.some.injEq] at hj
    subst hj
    rw [sortD_len, List.length_set]
  · simp at hj
def sumL (zs : List Int) : Int := zs.sum
theorem sum_perm {xs ys : List Int} (h : xs.Perm ys) : sumL xs = sumL ys := by
  unfold sumL
  induction h with
  | nil => rfl
  | cons x _ ih => simp [ih]
  | swap x y l => simp; omega
  | trans _ _ ih1 ih2 => rw [ih1, ih2]
theorem sum_set (zs : List Int) (i : Nat) (hi : i < zs.length) (x : Int) : sumL (zs.set i x) = sumL zs - zs.getD i 0 + x := by
  have e : zs = zs.take i ++ zs[i] :: zs.drop (i + 1) := by simp
  have e2 : sumL zs = sumL (zs.take i) + (zs[i] + sumL (zs.drop (i + 1))) := by
    conv => lhs; rw [e]
    unfold sumL
    rw [List.sum_append, List.sum_cons]
  rw [List.set_eq_take_append_cons_drop, if_pos hi, e2, show zs.getD i 0 = zs[i] by simp [hi]]
  unfold sumL
  rw [List.sum_append, List.sum_cons]; omega
theorem jump_sum {zs : List Int} {a : Int} {i : Nat} (hi : i < zs.length) {ys : List Int} (hj : jumpL a zs i = some ys) : sumL ys = sumL zs - zs.getD i 0 + othL a zs i := by
  unfold jumpL at hj
  split at hj
  · simp only [Option.some.injEq] at hj
    subst hj
    rw [sum_perm (sortD_perm _), sum_set zs i hi]
  · simp at hj
/-- the way down -/
def lastB (a : Int) (zs : List Int) : Bool := !within 1 (zs.getD 0 0 - 1) (othL a zs 0)
def nextD (a : Int) (zs : List Int) : List Int := sortD (zs.set 0 (othL a zs 0))
theorem Sol.next {zs : List Int} {a b : Int} (h : Sol zs a b) (hl : lastB a zs = false) : jumpL a zs 0 = some (nextD a zs) ∧ Sol (nextD a zs) a b ∧ sumL (nextD a zs) < sumL zs ∧ 1 ≤ sumL (nextD a zs) := by
  have h0 : 0 < zs.length := by have := h.hl; omega
  have hw : 1 ≤ othL a zs 0 ∧ othL a zs 0 ≤ zs.getD 0 0 - 1 := by simpa [lastB, within] using hl
  have hz := h.in5 (zs.getD 0 0) (by simp [h0])
  have hj : jumpL a zs 0 = some (nextD a zs) := by
    unfold jumpL
    rw [if_pos (within5.2 (by omega))]; rfl
  have hs := jump_sum h0 hj
  have hS := h.jump h0 hj
  refine ⟨hj, hS, by omega, ?_⟩
  have hl2 := hS.hl
  have hin := hS.in5
  generalize nextD a zs = ys at *
  match ys, hl2 with
  | y :: ys, _ =>
    have h1 := hin y (by simp)
    have h2 : 0 ≤ sumL ys := by
      unfold sumL
      have h3 : ∀ l : List Int, In5 l → 0 ≤ l.sum := by
        intro l
        induction l with
        | nil => intro _; simp
        | cons z l ih => intro hl; have := ih hl.tail; have := hl z (by simp); simp; omega
      exact h3 ys hin.tail
    have e : sumL (y :: ys) = y + sumL ys := by simp [sumL]
    omega
theorem Sol.sum_bd {zs : List Int} {a b : Int} (h : Sol zs a b) : 1 ≤ sumL zs ∧ sumL zs ≤ 400000 := by
  have hl := h.hl
  have hin := h.in5
  clear h
  match zs, hl with
  | [x, y, z], _ => have := hin x (by simp); have := hin y (by simp); have := hin z (by simp); simp [sumL]; omega
  | [x, y, z, t], _ => have := hin x (by simp); have := hin y (by simp); have := hin z (by simp); have := hin t (by simp); simp [sumL]; omega
/-- what is below a solution, downwards -/
def belowF (a : Int) : Nat → List Int → List (List Int)
  | 0, _ => []
  | k + 1, zs => if lastB a zs = true then [] else nextD a zs :: belowF a k (nextD a zs)
def belowL (a : Int) (zs : List Int) : List (List Int) := belowF a (sumL zs).toNat zs
theorem belowF_more {a b : Int} (k : Nat) : ∀ (j : Nat) (zs : List Int), Sol zs a b → (sumL zs).toNat ≤ k → (sumL zs).toNat ≤ j → belowF a k zs = belowF a j zs := by
  induction k with
  | zero => intro j zs h h1; have := h.sum_bd; omega
  | succ k ih =>
    intro j zs h h1 h2
    have hb := h.sum_bd
    cases j with
    | zero => omega
    | succ j =>
      unfold belowF
      split
      · rfl
      · rename_i hz
        have hn := h.next (by simpa using hz)
        rw [ih j _ hn.2.1 (by omega) (by omega)]
theorem belowL_last {a : Int} {zs : List Int} (hl : lastB a zs = true) : belowL a zs = [] := by
  unfold belowL
  cases (sumL zs).toNat with
  | zero => rfl
  | succ k => simp [belowF, hl]
theorem belowL_step {zs : List Int} {a b : Int} (h : Sol zs a b) (hl : lastB a zs = false) : belowL a zs = nextD a zs :: belowL a (nextD a zs) := by
  have hn := h.next hl
  have hb := h.sum_bd
  unfold belowL
  obtain ⟨k, hk⟩ : ∃ k, (sumL zs).toNat = k + 1 := ⟨(sumL zs).toNat - 1, by omega⟩
  rw [hk, belowF, if_neg (by rw [hl]; simp), belowF_more k (sumL (nextD a zs)).toNat _ hn.2.1 (by omega) (Nat.le_refl _)]
def wayL (a : Int) (zs : List Int) : List (List Int) := zs :: belowL a zs
theorem belowL_len {a b : Int} (k : Nat) : ∀ zs : List Int, Sol zs a b → (sumL zs).toNat ≤ k → (belowL a zs).length + 1 ≤ k := by
  induction k with
  | zero => intro zs h h1; have := h.sum_bd; omega
  | succ k ih =>
    intro zs h h1
    cases hl : lastB a zs
    · have hn := h.next hl
      rw [belowL_step h hl]
      have := ih _ hn.2.1 (by omega)
      simp; omega
    · rw [belowL_last hl]; simp
theorem Sol.way_len {zs : List Int} {a b : Int} (h : Sol zs a b) : (wayL a zs).length ≤ 400000 := by
  have := belowL_len _ zs h (Nat.le_refl _)
  have := h.sum_bd
  simp [wayL]; omega


theorem erase_perm (ys : List Int) (i : Nat) (h : i < ys.length) : ys.Perm (ys[i] :: ys.eraseIdx i) := by
  have e : ys = ys.take i ++ ys[i] :: ys.drop (i + 1) := by simp
  have e2 : ys.eraseIdx i = ys.take i ++ ys.drop (i + 1) := List.eraseIdx_eq_take_drop_succ _ _
  rw [e2]
  conv => lhs; rw [e]
  exact List.perm_middle
theorem set_perm_erase (ys : List Int) (i : Nat) (h : i < ys.length) (x : Int) : (ys.set i x).Perm (x :: ys.eraseIdx i) := by
  rw [List.set_eq_take_append_cons_drop, if_pos h, List.eraseIdx_eq_take_drop_succ]
  exact List.perm_middle
theorem Sol.back {zs : List Int} {a b : Int} (h : Sol zs a b) : ∃ i, i < (nextD a zs).length ∧ jumpL a (nextD a zs) i = some zs := by
  have h0 : 0 < zs.length := by have := h.hl; omega
  obtain ⟨r, hr⟩ : ∃ r, othL a zs 0 = r := ⟨_, rfl⟩
  obtain ⟨ys, hys⟩ : ∃ ys, nextD a zs = ys := ⟨_, rfl⟩
  have hp1 : ys.Perm (r :: zs.eraseIdx 0) := by
    rw [← hys]
    unfold nextD
    rw [hr]
    exact (sortD_perm _).trans (set_perm_erase zs 0 h0 r)
  rw [hys]
  have hm : r ∈ ys := hp1.mem_iff.2 (by simp)
  obtain ⟨i, hi, hir⟩ := List.getElem_of_mem hm
  refine ⟨i, hi, ?_⟩
  have hp2 : (ys.eraseIdx i).Perm (zs.eraseIdx 0) := by
    have := (erase_perm ys i hi).symm.trans hp1
    rw [hir] at this
    exact (List.perm_cons r).1 this
  have ho : othL a ys i = zs.getD 0 0 := by
    unfold othL restP at hr ⊢
    rw [prodL_perm hp2, show ys.getD i 0 = r by simp [hi, hir]]
    omega
  have hz := h.in5 (zs.getD 0 0) (by simp [h0])
  unfold jumpL
  rw [ho, if_pos (within5.2 hz)]
  congr 1
  refine sortD_of ((fallB_iff (by omega)).1 h.hf).1 ?_
  have h1 : (ys.set i (zs.getD 0 0)).Perm (zs.getD 0 0 :: zs.eraseIdx 0) := (set_perm_erase ys i hi _).trans (hp2.cons _)
  have h2 := (erase_perm zs 0 h0).symm
  rw [show zs[0] = zs.getD 0 0 by simp [h0]] at h2
  exact (h1.trans h2).symm

/-- the least index at which one solution jumps to another one -/
def idxF (a : Int) (ys zs : List Int) : Nat := ((List.range ys.length).takeWhile fun i => !decide (jumpL a ys i = some zs)).length
theorem takeWhile_range (p : Nat → Bool) (n : Nat) : (∀ j, j < ((List.range n).takeWhile p).length → p j = true) ∧ (((List.range n).takeWhile p).length < n → p ((List.range n).takeWhile p).length = false) := by
  have hpre := List.takeWhile_prefix p (l := List.range n)
  have hlen : ((List.range n).takeWhile p).length ≤ n := by simpa using hpre.length_le
  have hget : ∀ j (hj : j < ((List.range n).takeWhile p).length), ((List.range n).takeWhile p)[j] = j := by
    intro j hj
    have := hpre.getElem hj
    rw [this]; simp
  refine ⟨fun j hj => ?_, fun hlt => ?_⟩
  · have hm := List.getElem_mem hj
    rw [hget j hj] at hm
    have h2 : ∀ (l : List Nat) (x : Nat), x ∈ l.takeWhile p → p x = true := by
      intro l
      induction l with
      | nil => intro x hx; simp at hx
      | cons y l ih =>
        intro x hx
        rw [List.takeWhile_cons] at hx
        split at hx
        · rcases List.mem_cons.1 hx with rfl | hx
          · assumption
          · exact ih x hx
        · simp at hx
    exact h2 _ _ hm
  · have h3 : ∀ (l : List Nat) (h : (l.takeWhile p).length < l.length), p (l[(l.takeWhile p).length]) = false := by
      intro l
      induction l with
      | nil => intro h; simp at h
      | cons y l ih =>
        intro h
        cases hy : p y
        · simp [hy]
        · simp only [List.takeWhile_cons, hy, if_true, List.length_cons] at h ⊢
          simp only [List.getElem_cons_succ]
          exact ih (by omega)
    have := h3 (List.range n) (by simpa using hlt)
    simpa using this
theorem idxF_spec {a : Int} {ys zs : List Int} (h : ∃ i, i < ys.length ∧ jumpL a ys i = some zs) :
    idxF a ys zs < ys.length ∧ jumpL a ys (idxF a ys zs) = some zs ∧ ∀ j, j < idxF a ys zs → jumpL a ys j ≠ some zs := by
  have t := takeWhile_range (fun i => !decide (jumpL a ys i = some zs)) ys.length
  obtain ⟨i, hi, hj⟩ := h
  have hlt : idxF a ys zs < ys.length := by
    apply Decidable.byContradiction
    intro hc
    have := t.1 i (by unfold idxF at hc; omega)
    simp [hj] at this
  refine ⟨hlt, ?_, fun j hj => ?_⟩
  · have := t.2 hlt
    unfold idxF
    simpa using this
  · have := t.1 j hj
    simpa using this
theorem idxF_le4 {a b : Int} {ys zs : List Int} (hS : Sol ys a b) : idxF a ys zs ≤ 4 := by
  have := List.takeWhile_prefix (fun i => !decide (jumpL a ys i = some zs)) (l := List.range ys.length)
  have h2 := this.length_le
  have h3 := hS.hl
  unfold idxF
  simp at h2
  omega
theorem wayL_last {a : Int} {zs : List Int} (hl : lastB a zs = true) : wayL a zs = [zs] := by unfold wayL; rw [belowL_last hl]
theorem wayL_step {zs : List Int} {a b : Int} (h : Sol zs a b) (hl : lastB a zs = false) : wayL a zs = zs :: wayL a (nextD a zs) := by unfold wayL; rw [belowL_step h hl]
theorem way_sol {a b : Int} (k : Nat) : ∀ zs : List Int, Sol zs a b → (sumL zs).toNat ≤ k → ∀ i, i < (wayL a zs).length → Sol ((wayL a zs).getD i []) a b := by
  induction k with
  | zero => intro zs h h1; have := h.sum_bd; omega
  | succ k ih =>
    intro zs h h1 i hi
    cases hl : lastB a zs
    · have hn := h.next hl
      rw [wayL_step h hl] at hi ⊢
      cases i with
      | zero => exact h
      | succ i => exact ih _ hn.2.1 (by omega) i (by simpa using hi)
    · rw [wayL_last hl] at hi ⊢
      obtain rfl : i = 0 := by simpa using hi
      exact h
theorem way_next {a b : Int} (k : Nat) : ∀ zs : List Int, Sol zs a b → (sumL zs).toNat ≤ k → ∀ i, i + 1 < (wayL a zs).length → lastB a ((wayL a zs).getD i []) = false ∧ (wayL a zs).getD (i + 1) [] = nextD a ((wayL a zs).getD i []) := by
  induction k with
  | zero => intro zs h h1; have := h.sum_bd; omega
  | succ k ih =>
    intro zs h h1 i hi
    cases hl : lastB a zs
    · have hn := h.next hl
      rw [wayL_step h hl] at hi ⊢
      cases i with
      | zero => exact ⟨hl, rfl⟩
      | succ i => exact ih _ hn.2.1 (by omega) i (by simpa using hi)
    · rw [wayL_last hl] at hi
      simp at hi
/-- the word from the end of a way up to its place k -/
def upW (a : Int) (W : List (List Int)) (m : Nat) : List Int := (List.range m).map fun j => ((idxF a (W.getD (W.length - 1 - j) []) (W.getD (W.length - 2 - j) []) : Nat) : Int)
theorem upW_len (a : Int) (W : List (List Int)) (m : Nat) : (upW a W m).length = m := by simp [upW]
theorem upW_succ (a : Int) (W : List (List Int)) (m : Nat) : upW a W (m + 1) = upW a W m ++ [((idxF a (W.getD (W.length - 1 - m) []) (W.getD (W.length - 2 - m) []) : Nat) : Int)] := by
  simp [upW, List.range_succ]
theorem way_back {zs : List Int} {a b : Int} (h : Sol zs a b) (i : Nat) (hi : i + 1 < (wayL a zs).length) :
    ∃ j, j < ((wayL a zs).getD (i + 1) []).length ∧ jumpL a ((wayL a zs).getD (i + 1) []) j = some ((wayL a zs).getD i []) := by
  have h1 := way_sol _ zs h (Nat.le_refl _) i (by omega)
  have h2 := way_next _ zs h (Nat.le_refl _) i hi
  rw [h2.2]
  exact h1.back
def upAns (zs : List Int) (a b : Int) : Option (List Int) := if (givenB a b && solB zs a b) = true then some (upW a (wayL a zs) ((wayL a zs).length - 1)) else none
end Go.Proofs.Ytoaopmafokoaoaa
