/- Markov triples: the arithmetic; contracts of the small functions of the model and the program that speak of three numbers. -/
import Derived.Test.YtoaopmafokoaoaaBasA
import Derived.WalkLawsBesides
namespace Go.Proofs.Ytoaopmafokoaoaa
open Go.RowKit

def solves3 (x y z : Int) : Bool := decide (x * x + y * y + z * z = 3 * x * y * z)
def leastI (a b : Int) : Int := if a < b then a else b
def mostI (a b : Int) : Int := if b < a then a else b
def low3 (x y z : Int) : Int := leastI x (leastI y z)
def high3 (x y z : Int) : Int := mostI x (mostI y z)
def mid3 (x y z : Int) : Int := x + y + z - low3 x y z - high3 x y z
def ordL (x y z : Int) : List Int := [low3 x y z, mid3 x y z, high3 x y z]
theorem low3_spec (x y z : Int) : (low3 x y z = x ∨ low3 x y z = y ∨ low3 x y z = z) ∧ low3 x y z ≤ x ∧ low3 x y z ≤ y ∧ low3 x y z ≤ z := by
  unfold low3 leastI; split <;> split <;> omega
theorem high3_spec (x y z : Int) : (high3 x y z = x ∨ high3 x y z = y ∨ high3 x y z = z) ∧ x ≤ high3 x y z ∧ y ≤ high3 x y z ∧ z ≤ high3 x y z := by
  unfold high3 mostI; split <;> split <;> omega
theorem ordL_eq (x y z a b c : Int) (h1 : a ≤ b) (h2 : b ≤ c) (h : (a = x ∧ b = y ∧ c = z) ∨ (a = x ∧ b = z ∧ c = y) ∨ (a = y ∧ b = x ∧ c = z) ∨ (a = y ∧ b = z ∧ c = x) ∨ (a = z ∧ b = x ∧ c = y) ∨ (a = z ∧ b = y ∧ c = x)) : ordL x y z = [a, b, c] := by
  have := low3_spec x y z
  have := high3_spec x y z
  simp only [ordL, mid3, List.cons.injEq, and_true]
  omega
theorem ordL_swap1 (x y z : Int) : ordL y x z = ordL x y z := by
  have := low3_spec x y z
  have := high3_spec x y z
  have := low3_spec y x z
  have := high3_spec y x z
  simp only [ordL, mid3, List.cons.injEq, and_true]
  omega
theorem ordL_swap2 (x y z : Int) : ordL x z y = ordL x y z := by
  have := low3_spec x y z
  have := high3_spec x y z
  have := low3_spec x z y
  have := high3_spec x z y
  simp only [ordL, mid3, List.cons.injEq, and_true]
  omega
theorem merge3 (x y z : Int) : [x, y, z].mergeSort (fun a b => decide (a ≤ b)) = ordL x y z := by
  simp [List.mergeSort, List.MergeSort.Internal.splitInTwo]
  by_cases h1 : x ≤ y <;> by_cases h2 : y ≤ z <;> by_cases h3 : x ≤ z <;>
    (simp [h1, h2, h3]; try (symm; apply ordL_eq <;> omega))
theorem solves3_perm {x y z a b c : Int} (h : (a = x ∧ b = y ∧ c = z) ∨ (a = x ∧ b = z ∧ c = y) ∨ (a = y ∧ b = x ∧ c = z) ∨ (a = y ∧ b = z ∧ c = x) ∨ (a = z ∧ b = x ∧ c = y) ∨ (a = z ∧ b = y ∧ c = x)) : solves3 a b c = solves3 x y z := by
  unfold solves3
  apply decide_eq_decide.2
  rcases h with ⟨rfl, rfl, rfl⟩ | ⟨rfl, rfl, rfl⟩ | ⟨rfl, rfl, rfl⟩ | ⟨rfl, rfl, rfl⟩ | ⟨rfl, rfl, rfl⟩ | ⟨rfl, rfl, rfl⟩ <;> constructor <;> intro h <;> grind
theorem sort3_perm (x y z : Int) : (low3 x y z = x ∧ mid3 x y z = y ∧ high3 x y z = z) ∨ (low3 x y z = x ∧ mid3 x y z = z ∧ high3 x y z = y) ∨ (low3 x y z = y ∧ mid3 x y z = x ∧ high3 x y z = z) ∨ (low3 x y z = y ∧ mid3 x y z = z ∧ high3 x y z = x) ∨ (low3 x y z = z ∧ mid3 x y z = x ∧ high3 x y z = y) ∨ (low3 x y z = z ∧ mid3 x y z = y ∧ high3 x y z = x) := by
  have := low3_spec x y z
  have := high3_spec x y z
  unfold mid3
  omega
theorem sort3_order (x y z : Int) : low3 x y z ≤ mid3 x y z ∧ mid3 x y z ≤ high3 x y z := by
  have := low3_spec x y z
  have := high3_spec x y z
  unfold mid3
  omega
theorem sort3_solves (x y z : Int) : solves3 (low3 x y z) (mid3 x y z) (high3 x y z) = solves3 x y z := solves3_perm (by
  rcases sort3_perm x y z with h | h | h | h | h | h <;> simp [h])
/-- the model's test: the least two at most the greatest -/
theorem solves_spec (x y z : Int) (hz : 1 ≤ z) : ((x * x + y * y) % z = 0 ∧ (x * x + y * y) / z = 3 * x * y - z) ↔ x * x + y * y + z * z = 3 * x * y * z := by
  constructor
  · rintro ⟨h1, h2⟩
    have h3 := Int.mul_ediv_add_emod (x * x + y * y) z
    rw [h1, h2] at h3
    grind
  · intro h
    have h2 : x * x + y * y = z * (3 * x * y - z) := by grind
    rw [h2]
    exact ⟨Int.mul_emod_right _ _, Int.mul_ediv_cancel_left _ (by omega)⟩
theorem solves_impl (x y z : Int) (hz : 1 ≤ z) : ((x * x + y * y + z * z) % z = 0 ∧ (x * x + y * y + z * z) / z = 3 * x * y) ↔ x * x + y * y + z * z = 3 * x * y * z := by
  constructor
  · rintro ⟨h1, h2⟩
    have h3 := Int.mul_ediv_add_emod (x * x + y * y + z * z) z
    rw [h1, h2] at h3
    grind
  · intro h
    have h2 : x * x + y * y + z * z = z * (3 * x * y) := by grind
    rw [h2]
    exact ⟨Int.mul_emod_right _ _, Int.mul_ediv_cancel_left _ (by omega)⟩
/-- three positive ordered numbers that solve it: the greatest falls by its move, but for 1 1 1 -/
theorem down_pos (x y z : Int) (hx : 1 ≤ x) (hy : 1 ≤ y) (hz : 1 ≤ z) (h : x * x + y * y + z * z = 3 * x * y * z) : 1 ≤ 3 * x * y - z := by
  have h2 : x * x + y * y = z * (3 * x * y - z) := by grind
  have h3 : 0 < x * x := Int.mul_pos (by omega) (by omega)
  have h4 : 0 < y * y := Int.mul_pos (by omega) (by omega)
  have h5 : 0 < z * (3 * x * y - z) := by omega
  exact Int.pos_of_mul_pos_right h5 (by omega)
theorem down_less (x y z : Int) (hx : 1 ≤ x) (hxy : x ≤ y) (hyz : y ≤ z) (h : x * x + y * y + z * z = 3 * x * y * z) (hz : z ≠ 1) : 3 * x * y - z < z := by
  have p := down_pos x y z hx (by omega) (by omega) h
  have h2 : x * x + y * y = z * (3 * x * y - z) := by grind
  -- if z ≤ n := 3xy - z then z*z ≤ x x + y y ≤ 2 y y, and (y - z)(y - n) = y*y - 3xyy + x x + y y = 2 y y + x x - 3 x y y ≤ 0
  have e : (z - y) * (3 * x * y - z - y) = 2 * (y * y) + x * x - 3 * x * (y * y) := by grind
  have hxx : x * x ≤ x * (y * y) := Int.mul_le_mul_of_nonneg_left (by have := Int.mul_le_mul_of_nonneg_left (show (1:Int) ≤ y by omega) (show 0 ≤ y by omega); omega) (by omega)
  have hyy : y * y ≤ x * (y * y) := by have := Int.mul_le_mul_of_nonneg_right hx (show 0 ≤ y * y from Int.mul_nonneg (by omega) (by omega)); omega
  apply Decidable.byContradiction
  intro hc
  have hn : z ≤ 3 * x * y - z := by omega
  have h7 : 0 ≤ (z - y) * (3 * x * y - z - y) := Int.mul_nonneg (by omega) (by omega)
  have h8 : 2 * (y * y) + x * x - 3 * x * (y * y) ≤ 0 := by grind
  have h9 : (z - y) * (3 * x * y - z - y) = 0 := by omega
  have h10 : x * x = x * (y * y) ∧ y * y = x * (y * y) := by
    have : 2 * (y * y) + x * x - 3 * x * (y * y) = 2 * (y * y - x * (y * y)) + (x * x - x * (y * y)) := by grind
    omega
  have h11 : x = 1 := by
    have : y * y * (x - 1) = 0 := by grind
    rcases Int.mul_eq_zero.1 this with h | h
    · rcases Int.mul_eq_zero.1 h with h | h <;> omega
    · omega
  subst h11
  have h12 : y = 1 := by
    have : (y - 1) * (y + 1) = 0 := by grind
    rcases Int.mul_eq_zero.1 this with h | h <;> omega
  subst h12
  have h13 : (z - 1) * (z - 2) = 0 := by grind
  rcases Int.mul_eq_zero.1 h13 with h | h
  · omega
  · omega

/-! ### small functions -/

theorem l1Least_any (a b : Int) (w : World) : Calls Try.prog 129 #[.int .i64 a, .int .i64 b] w fun e w' => e = .returned (.int .i64 (leastI a b)) ∧ w = w' := by
  by_cases h : a < b
  · have H := hid (show leastI a b = a by unfold leastI; rw [if_pos h])
    go_enter Try.func129, Try.ntmps129
    go_wp2
    go_ret
    exact ⟨ret_int H.out.symm, rfl⟩
  · have H := hid (show leastI a b = b by unfold leastI; rw [if_neg h])
    go_enter Try.func129, Try.ntmps129
    go_wp2
    go_ret
    exact ⟨ret_int H.out.symm, rfl⟩
end Go.Proofs.Ytoaopmafokoaoaa
