/- ReflectionOf, the model's: the states of its two loops. -/
import Derived.Test.YtmlnpnglafipbabReflJ
namespace Go.Proofs.Ytmlnpnglafipbab
open Go.RowKit

/-- columns before j are laid, of column j the rows before i -/
def reflSt (q : Int) (zs ps : List Int) (i j : Nat) : Nat → Nat → Int := fun a b => if b < j ∨ (b = j ∧ a < i) then reflAt q (zs.getD a 0) (ps.getD b 0) a b else eqI a b
theorem reflSt_at (q : Int) (zs ps : List Int) (i j : Nat) : reflSt q zs ps i j i j = eqI i j := by unfold reflSt; rw [if_neg (by omega)]
theorem reflSt_step (q : Int) (zs ps : List Int) (i j : Nat) : upd (reflSt q zs ps i j) i j (reflAt q (zs.getD i 0) (ps.getD j 0) i j) = reflSt q zs ps (i + 1) j := by
  funext a b
  unfold upd reflSt
  by_cases h : a = i ∧ b = j
  · rw [if_pos h, if_pos (by omega), h.1, h.2]
  · rw [if_neg h]
    by_cases h2 : b < j ∨ (b = j ∧ a < i)
    · rw [if_pos h2, if_pos (by omega)]
    · rw [if_neg h2, if_neg (by omega)]
theorem reflSt_next (n : Nat) (q : Int) (zs ps : List Int) (j : Nat) : mk n (reflSt q zs ps n j) = mk n (reflSt q zs ps 0 (j + 1)) := by
  refine mk_congr n _ _ fun a b ha hb => ?_
  unfold reflSt
  by_cases h : b < j ∨ (b = j ∧ a < n)
  · rw [if_pos h, if_pos (by omega)]
  · rw [if_neg h, if_neg (by omega)]
theorem reflSt_zero (n : Nat) (q : Int) (zs ps : List Int) : mk n (reflSt q zs ps 0 0) = unitM n := by
  refine mk_congr n _ _ fun a b ha hb => ?_
  unfold reflSt; rw [if_neg (by omega)]
theorem reflSt_full (n : Nat) (q : Int) (zs ps : List Int) : mk n (reflSt q zs ps 0 n) = reflM n q zs ps := by
  refine mk_congr n _ _ fun a b ha hb => ?_
  unfold reflSt; rw [if_pos (Or.inl hb)]
theorem wholeN_true {n : Nat} {q : Int} {zs ps : List Int} (t : Nat) (h : ∀ s, s < t → wholeAt q (zs.getD (s / n) 0) (ps.getD (s % n) 0) = true) : wholeN n q zs ps t = true := by
  induction t with
  | zero => rfl
  | succ t ih => unfold wholeN; rw [ih (fun s hs => h s (by omega)), h t (by omega)]; rfl
theorem wholeN_false {n : Nat} {q : Int} {zs ps : List Int} (t s : Nat) (hs : s < t) (h : wholeAt q (zs.getD (s / n) 0) (ps.getD (s % n) 0) = false) : wholeN n q zs ps t = false := by
  induction t with
  | zero => omega
  | succ t ih =>
    unfold wholeN
    by_cases hst : s = t
    · subst hst; rw [h]; simp
    · rw [ih (by omega)]; rfl
theorem wholeN_all {n : Nat} {q : Int} {zs ps : List Int} (h : ∀ i j, i < n → j < n → wholeAt q (zs.getD i 0) (ps.getD j 0) = true) : wholeN n q zs ps (n * n) = true :=
  wholeN_true _ fun s hs => h _ _ (Nat.div_lt_of_lt_mul hs) (Nat.mod_lt _ (Nat.pos_of_ne_zero fun e => by subst e; omega))
theorem wholeN_one {n : Nat} {q : Int} {zs ps : List Int} (i j : Nat) (hi : i < n) (hj : j < n) (h : wholeAt q (zs.getD i 0) (ps.getD j 0) = false) : wholeN n q zs ps (n * n) = false := by
  have h1 : (i * n + j) / n = i := by rw [Nat.mul_comm i n, Nat.mul_add_div (by omega), Nat.div_eq_of_lt hj]; rfl
  have h2 : (i * n + j) % n = j := by rw [Nat.mul_comm i n, Nat.mul_add_mod, Nat.mod_eq_of_lt hj]
  refine wholeN_false (n * n) (i * n + j) ?_ (by rw [h1, h2]; exact h)
  have := Nat.mul_le_mul_right n (show i + 1 ≤ n from hi)
  rw [Nat.succ_mul] at this
  omega

theorem prodAns_yes {F : List (List Int)} {zs : List Int} (h : (formW F && (vecOK F.length zs && vecOK F.length zs)) = true) : prodAns F zs zs = some (dotW zs (applyW F zs)) := by unfold prodAns; rw [if_pos h]
theorem prodAns_no {F : List (List Int)} {zs : List Int} (h : (formW F && (vecOK F.length zs && vecOK F.length zs)) = false) : prodAns F zs zs = none := by unfold prodAns; rw [h]; rfl
end Go.Proofs.Ytmlnpnglafipbab
