/- Equations of Hurwitz: the arithmetic of solutions, other roots, jumps. -/
import Derived.Test.YtdahhcigphhfdadMk
namespace Go.Proofs.Ytdahhcigphhfdad
open Go.RowKit

def prodL (zs : List Int) : Int := zs.foldr (fun x y => x * y) 1
def sqs (zs : List Int) : Int := (zs.map fun z => z * z).sum
def capP (a : Int) (zs : List Int) : Int := zs.foldl (fun o x => leastI (o * x) 1000000000000) a
def fallB : Int → List Int → Bool
  | _, [] => true
  | m, z :: zs => decide (1 ≤ z) && decide (z ≤ m) && fallB z zs
def In5 (zs : List Int) : Prop := ∀ z ∈ zs, 1 ≤ z ∧ z ≤ 100000
theorem prodL_nil : prodL [] = 1 := rfl
theorem prodL_cons (z : Int) (zs : List Int) : prodL (z :: zs) = z * prodL zs := rfl
theorem prodL_append (xs ys : List Int) : prodL (xs ++ ys) = prodL xs * prodL ys := by
  induction xs with
  | nil => simp [prodL_nil]
  | cons x xs ih => rw [List.cons_append, prodL_cons, prodL_cons, ih, Int.mul_assoc]
theorem prodL_snoc (xs : List Int) (y : Int) : prodL (xs ++ [y]) = prodL xs * y := by rw [prodL_append, prodL_cons, prodL_nil, Int.mul_one]
theorem In5.pos {zs : List Int} (h : In5 zs) : 1 ≤ prodL zs := by
  induction zs with
  | nil => simp [prodL_nil]
  | cons z zs ih =>
    have h1 := ih fun x hx => h x (by simp [hx])
    have h2 := (h z (by simp)).1
    rw [prodL_cons]
    have := Int.mul_le_mul h2 h1 (by omega) (by omega)
    omega
theorem In5.tail {z : Int} {zs : List Int} (h : In5 (z :: zs)) : In5 zs := fun x hx => h x (by simp [hx])
theorem In5.take {zs : List Int} (h : In5 zs) (k : Nat) : In5 (zs.take k) := fun x hx => h x (List.mem_of_mem_take hx)
theorem In5.drop {zs : List Int} (h : In5 zs) (k : Nat) : In5 (zs.drop k) := fun x hx => h x (List.mem_of_mem_drop hx)
theorem In5.erase {zs : List Int} (h : In5 zs) (k : Nat) : In5 (zs.eraseIdx k) := fun x hx => h x (List.mem_of_mem_eraseIdx hx)
theorem least_le (a b : Int) : leastI a b ≤ b := by unfold leastI; split <;> omega
theorem least_pos {a b : Int} (ha : 1 ≤ a) (hb : 1 ≤ b) : 1 ≤ leastI a b := by unfold leastI; split <;> omega
theorem capP_bd (zs : List Int) : ∀ a, 1 ≤ a → a ≤ 1000000000000 → In5 zs → 1 ≤ capP a zs ∧ capP a zs ≤ 1000000000000 := by
  induction zs with
  | nil => intro a h1 h2 _; exact ⟨h1, h2⟩
  | cons z zs ih =>
    intro a h1 h2 h
    have hz := h z (by simp)
    have hm : 1 ≤ a * z := by have := Int.mul_le_mul h1 hz.1 (by omega) (by omega); omega
    exact ih _ (least_pos hm (by omega)) (least_le _ _) h.tail
theorem capP_eq (zs : List Int) : ∀ a, 1 ≤ a → a ≤ 1000000000000 → In5 zs → capP a zs = leastI (a * prodL zs) 1000000000000 := by
  induction zs with
  | nil => intro a h1 h2 _; rw [prodL_nil, Int.mul_one]; unfold capP leastI; simp; omega
  | cons z zs ih =>
    intro a h1 h2 h
    have hz := h z (by simp)
    have hp := h.tail.pos
    have hm : 1 ≤ a * z := by have := Int.mul_le_mul h1 hz.1 (by omega) (by omega); omega
    have e : capP a (z :: zs) = capP (leastI (a * z) 1000000000000) zs := rfl
    rw [e, ih _ (least_pos hm (by omega)) (least_le _ _) h.tail, prodL_cons, ← Int.mul_assoc]
    by_cases hl : a * z < 1000000000000
    · rw [show leastI (a * z) 1000000000000 = a * z from if_pos hl]
    · rw [show leastI (a * z) 1000000000000 = 1000000000000 from if_neg hl]
      have h3 : 1000000000000 ≤ a * z * prodL zs := by
        have := Int.mul_le_mul (show (1000000000000 : Int) ≤ a * z by omega) hp (by omega) (by omega); omega
      have h4 : 1000000000000 ≤ 1000000000000 * prodL zs := by omega
      unfold leastI
      rw [if_neg (by omega), if_neg (by omega)]
theorem capP_snoc (a : Int) (zs : List Int) (z : Int) : capP a (zs ++ [z]) = leastI (capP a zs * z) 1000000000000 := by simp [capP]
theorem sqs_snoc (zs : List Int) (z : Int) : sqs (zs ++ [z]) = sqs zs + z * z := by simp [sqs]
theorem sqs_append (xs ys : List Int) : sqs (xs ++ ys) = sqs xs + sqs ys := by simp [sqs]
theorem sqs_cons (x : Int) (xs : List Int) : sqs (x :: xs) = x * x + sqs xs := by simp [sqs]
theorem sqs_bd {zs : List Int} (h : In5 zs) : 0 ≤ sqs zs ∧ sqs zs ≤ 10000000000 * zs.length := by
  induction zs with
  | nil => simp [sqs]
  | cons z zs ih =>
    have hz := h z (by simp)
    have h1 : 1 ≤ z * z := by have := Int.mul_le_mul hz.1 hz.1 (by omega) (by omega); omega
    have h2 : z * z ≤ 10000000000 := by have := Int.mul_le_mul hz.2 hz.2 (by omega) (by omega); omega
    have h3 := ih h.tail
    have e : sqs (z :: zs) = z * z + sqs zs := by simp [sqs]
    rw [e]; simp; omega

def givenB (a b : Int) : Bool := within 1 20 a && within (-50) 50 b
def lenB (zs : List Int) : Bool := within 3 4 (zs.length : Int)
def solB (zs : List Int) (a b : Int) : Bool := lenB zs && fallB 100000 zs && decide (sqs zs = a * prodL zs + b)
/-- Numbers that are a solution for a factor and a rest in their limits. -/
structure Sol (zs : List Int) (a b : Int) : Prop where
  ha : 1 ≤ a ∧ a ≤ 20
  hb : -50 ≤ b ∧ b ≤ 50
  hl : zs.length = 3 ∨ zs.length = 4
  hf : fallB 100000 zs = true
  he : sqs zs = a * prodL zs + b
theorem fallB_in5 {zs : List Int} : ∀ {m : Int}, m ≤ 100000 → fallB m zs = true → In5 zs := by
  induction zs with
  | nil => intro m _ _ x hx; simp at hx
  | cons z zs ih =>
    intro m hm h x hx
    simp only [fallB, Bool.and_eq_true, decide_eq_true_eq] at h
    rcases List.mem_cons.1 hx with rfl | hx
    · omega
    · exact ih (by omega) h.2 x hx
theorem givenB_iff {a b : Int} : givenB a b = true ↔ (1 ≤ a ∧ a ≤ 20) ∧ (-50 ≤ b ∧ b ≤ 50) := by simp [givenB, within]
theorem lenB_iff {zs : List Int} : lenB zs = true ↔ (zs.length = 3 ∨ zs.length = 4) := by simp only [lenB, within, Bool.and_eq_true, decide_eq_true_eq]; omega
theorem Sol.of {zs : List Int} {a b : Int} (hg : givenB a b = true) (h : solB zs a b = true) : Sol zs a b := by
  have hg := givenB_iff.1 hg
  simp only [solB, Bool.and_eq_true, decide_eq_true_eq] at h
  exact ⟨hg.1, hg.2, lenB_iff.1 h.1.1, h.1.2, h.2⟩
theorem Sol.given {zs : List Int} {a b : Int} (h : Sol zs a b) : givenB a b = true := givenB_iff.2 ⟨h.ha, h.hb⟩
theorem Sol.sol {zs : List Int} {a b : Int} (h : Sol zs a b) : solB zs a b = true := by
  simp only [solB, Bool.and_eq_true, decide_eq_true_eq]
  exact ⟨⟨lenB_iff.2 h.hl, h.hf⟩, h.he⟩
theorem Sol.in5 {zs : List Int} {a b : Int} (h : Sol zs a b) : In5 zs := fallB_in5 (by omega) h.hf
theorem In5.sq4 {zs : List Int} (h : In5 zs) (hl : zs.length = 3 ∨ zs.length = 4) : 0 ≤ sqs zs ∧ sqs zs ≤ 40000000000 := by
  have := sqs_bd h; omega
/-- the model's test, with its bound on products -/
theorem cap_test {zs : List Int} {a b : Int} (ha : 1 ≤ a ∧ a ≤ 20) (hb : -50 ≤ b ∧ b ≤ 50) (hl : zs.length = 3 ∨ zs.length = 4) (h : In5 zs) :
    (sqs zs == capP a zs + b) = decide (sqs zs = a * prodL zs + b) := by
  have hs := h.sq4 hl
  have hp := h.pos
  rw [capP_eq zs a ha.1 (by omega) h]
  show decide (sqs zs = leastI (a * prodL zs) 1000000000000 + b) = _
  apply decide_eq_decide.2
  unfold leastI
  split <;> omega
/-- the program's test: it divides by one after the other -/
def facL : Int → List Int → Int
  | f, [] => f
  | f, z :: zs => if f.tmod z = 0 then facL (f.tdiv z) zs else 0
theorem facL_eq (zs : List Int) (a : Int) (ha : a ≠ 0) : ∀ f, In5 zs → (facL f zs = a ↔ f = a * prodL zs) := by
  induction zs with
  | nil => intro f _; simp [facL, prodL_nil]
  | cons z zs ih =>
    intro f h
    have hz := (h z (by simp)).1
    simp only [facL]
    by_cases hd : f.tmod z = 0
    · rw [if_pos hd, ih _ h.tail, prodL_cons]
      have h1 := Int.mul_tdiv_add_tmod f z
      rw [hd, Int.add_zero] at h1
      constructor
      · intro h2; rw [← h1, h2]; grind
      · intro h2
        have h3 : z * f.tdiv z = z * (a * prodL zs) := by rw [h1, h2]; grind
        exact Int.eq_of_mul_eq_mul_left (by omega) h3
    · rw [if_neg hd]
      constructor
      · intro h2; exact absurd h2.symm ha
      · intro h2
        exfalso
        apply hd
        rw [h2, prodL_cons, show a * (z * prodL zs) = z * (a * prodL zs) by grind]
        exact Int.mul_tmod_right _ _
/-- the other root for an index -/
def restP (a : Int) (zs : List Int) (i : Nat) : Int := a * prodL (zs.eraseIdx i)
def othL (a : Int) (zs : List Int) (i : Nat) : Int := restP a zs i - zs.getD i 0
theorem prodL_erase (zs : List Int) (i : Nat) (hi : i < zs.length) : prodL zs = zs.getD i 0 * prodL (zs.eraseIdx i) := by
  rw [List.eraseIdx_eq_take_drop_succ, prodL_append]
  have e : zs = zs.take i ++ zs[i] :: zs.drop (i + 1) := by simp
  have e2 : prodL zs = prodL (zs.take i) * (zs[i] * prodL (zs.drop (i + 1))) := by
    conv => lhs; rw [e]
    rw [prodL_append, prodL_cons]
  rw [e2, show zs.getD i 0 = zs[i] by simp [hi]]
  grind
theorem Sol.rest_bd {zs : List Int} {a b : Int} (h : Sol zs a b) (i : Nat) (hi : i < zs.length) : 1 ≤ restP a zs i ∧ restP a zs i ≤ 40000000050 := by
  have hs := h.in5.sq4 h.hl
  have hp := (h.in5.erase i).pos
  have he := h.he
  have hz := h.in5 (zs.getD i 0) (by simp [hi])
  have ha := h.ha
  have hb := h.hb
  unfold restP
  have h1 : 1 ≤ a * prodL (zs.eraseIdx i) := by have := Int.mul_le_mul ha.1 hp (by omega) (by omega); omega
  have h2 : a * prodL zs = zs.getD i 0 * (a * prodL (zs.eraseIdx i)) := by rw [prodL_erase zs i hi]; grind
  have h3 : a * prodL (zs.eraseIdx i) ≤ zs.getD i 0 * (a * prodL (zs.eraseIdx i)) := by
    have := Int.mul_le_mul_of_nonneg_right hz.1 (show 0 ≤ a * prodL (zs.eraseIdx i) by omega); omega
  omega
theorem Sol.cap_rest {zs : List Int} {a b : Int} (h : Sol zs a b) (i : Nat) (hi : i < zs.length) : capP a (zs.eraseIdx i) = restP a zs i := by
  have := h.rest_bd i hi
  rw [capP_eq _ a h.ha.1 (by have := h.ha; omega) (h.in5.erase i)]
  unfold restP at *
  unfold leastI
  rw [if_pos (by omega)]
/-- with the other root in its place the equation holds again -/
theorem sqs_set (zs : List Int) (i : Nat) (hi : i < zs.length) (x : Int) : sqs (zs.set i x) = sqs zs - zs.getD i 0 * zs.getD i 0 + x * x := by
  have e : zs = zs.take i ++ zs[i] :: zs.drop (i + 1) := by simp
  have e2 : sqs zs = sqs (zs.take i) + (zs[i] * zs[i] + sqs (zs.drop (i + 1))) := by
    conv => lhs; rw [e]
    rw [sqs_append, sqs_cons]
  rw [List.set_eq_take_append_cons_drop, if_pos hi, e2, show zs.getD i 0 = zs[i] by simp [hi]]
  rw [sqs_append, sqs_cons]; omega
theorem prodL_set (zs : List Int) (i : Nat) (hi : i < zs.length) (x : Int) : prodL (zs.set i x) = x * prodL (zs.eraseIdx i) := by
  rw [List.set_eq_take_append_cons_drop, if_pos hi, List.eraseIdx_eq_take_drop_succ, prodL_append, prodL_append, prodL_cons]
  grind
theorem Sol.eq_set {zs : List Int} {a b : Int} (h : Sol zs a b) (i : Nat) (hi : i < zs.length) : sqs (zs.set i (othL a zs i)) = a * prodL (zs.set i (othL a zs i)) + b := by
  have he := h.he
  rw [prodL_erase zs i hi] at he
  rw [sqs_set zs i hi, prodL_set zs i hi]
  unfold othL restP
  grind
end Go.Proofs.Ytdahhcigphhfdad
