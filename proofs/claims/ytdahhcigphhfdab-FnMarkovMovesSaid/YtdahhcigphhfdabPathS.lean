/- The way down of a triple, in the model. -/
import Derived.Test.YtdahhcigphhfdabMkO
import Derived.Test.YtdahhcigphhfdabMkJ
import Derived.Test.YtdahhcigphhfdabBasB
import Derived.Deep.AppendLies
namespace Go.Proofs.Ytdahhcigphhfdab
open Go.RowKit

/-- Three numbers that are a triple. -/
def T3 (x y z : Int) : Prop := (1 ≤ x ∧ x ≤ 1000000000) ∧ (1 ≤ y ∧ y ≤ 1000000000) ∧ (1 ≤ z ∧ z ≤ 1000000000) ∧ x ≤ y ∧ y ≤ z ∧ x * x + y * y + z * z = 3 * x * y * z
def nx (x y z : Int) : Int := low3 x y (3 * x * y - z)
def ny (x y z : Int) : Int := mid3 x y (3 * x * y - z)
def nz (x y z : Int) : Int := high3 x y (3 * x * y - z)
theorem next_ord (x y z : Int) : ordL x y (3 * x * y - z) = [nx x y z, ny x y z, nz x y z] := rfl
theorem mid_less (x y z : Int) (h : T3 x y z) (hz : z ≠ 1) : y < z := by
  obtain ⟨hx, hy, hz0, hxy, hyz, he⟩ := h
  apply Decidable.byContradiction
  intro hc
  obtain rfl : y = z := by omega
  have e : x * x + 2 * (y * y) = 3 * x * (y * y) := by grind
  have h1 : x * x ≤ x * (y * y) := by
    have a1 : x ≤ y * y := by have := Int.mul_le_mul_of_nonneg_left hy.1 (show 0 ≤ y by omega); omega
    exact Int.mul_le_mul_of_nonneg_left a1 (by omega)
  have h2 : y * y ≤ x * (y * y) := by have := Int.mul_le_mul_of_nonneg_right hx.1 (show 0 ≤ y * y from Int.mul_nonneg (by omega) (by omega)); omega
  have h3 : 3 * x * (y * y) = 3 * (x * (y * y)) := by grind
  have h4 : y * y = x * (y * y) ∧ x * x = x * (y * y) := by omega
  have h5 : x = 1 := by
    have : y * y * (x - 1) = 0 := by grind
    rcases Int.mul_eq_zero.1 this with h | h
    · rcases Int.mul_eq_zero.1 h with h | h <;> omega
    · omega
  subst h5
  have : (y - 1) * (y + 1) = 0 := by grind
  rcases Int.mul_eq_zero.1 this with h | h <;> omega
theorem next_T3 {x y z : Int} (h : T3 x y z) (hz : z ≠ 1) : T3 (nx x y z) (ny x y z) (nz x y z) ∧ nz x y z < z := by
  have hm := mid_less x y z h hz
  obtain ⟨hx, hy, hz0, hxy, hyz, he⟩ := h
  have p1 := down_pos x y z hx.1 hy.1 hz0.1 he
  have p2 := down_less x y z hx.1 hxy hyz he hz
  have l := low3_spec x y (3 * x * y - z)
  have g := high3_spec x y (3 * x * y - z)
  have o := sort3_order x y (3 * x * y - z)
  have s := sort3_solves x y (3 * x * y - z)
  have pm := sort3_perm x y (3 * x * y - z)
  have e2 : x * x + y * y + (3 * x * y - z) * (3 * x * y - z) = 3 * x * y * (3 * x * y - z) := by grind
  have e3 : nx x y z * nx x y z + ny x y z * ny x y z + nz x y z * nz x y z = 3 * nx x y z * ny x y z * nz x y z := by
    unfold solves3 at s
    rw [decide_eq_decide] at s
    exact s.2 e2
  unfold nx ny nz at *
  exact ⟨⟨by omega, by omega, by omega, o.1, o.2, e3⟩, by omega⟩
/-- what is below a triple, downwards -/
def tailF : Nat → Int → Int → Int → List (List Int)
  | 0, _, _, _ => []
  | k + 1, x, y, z => if z = 1 then [] else [nx x y z, ny x y z, nz x y z] :: tailF k (nx x y z) (ny x y z) (nz x y z)
def tailG (x y z : Int) : List (List Int) := tailF z.toNat x y z
theorem tailF_more (k : Nat) : ∀ (j : Nat) (x y z : Int), T3 x y z → z.toNat ≤ k → z.toNat ≤ j → tailF k x y z = tailF j x y z := by
  induction k with
  | zero => intro j x y z h h1; have := h.2.2.1.1; omega
  | succ k ih =>
    intro j x y z h h1 h2
    cases j with
    | zero => have := h.2.2.1.1; omega
    | succ j =>
      unfold tailF
      split
      · rfl
      · rename_i hz
        have hn := next_T3 h hz
        rw [ih j _ _ _ hn.1 (by omega) (by omega)]
theorem tailG_one (x y : Int) : tailG x y 1 = [] := by simp [tailG, tailF]
theorem tailG_step {x y z : Int} (h : T3 x y z) (hz : z ≠ 1) : tailG x y z = [nx x y z, ny x y z, nz x y z] :: tailG (nx x y z) (ny x y z) (nz x y z) := by
  have hn := next_T3 h hz
  have h1 := h.2.2.1.1
  unfold tailG
  obtain ⟨k, hk⟩ : ∃ k, z.toNat = k + 1 := ⟨z.toNat - 1, by omega⟩
  rw [hk, tailF, if_neg hz, tailF_more k (nz x y z).toNat _ _ _ hn.1 (by omega) (Nat.le_refl _)]
def pathG (x y z : Int) : List (List Int) := [x, y, z] :: tailG x y z
def pathAns (zs : List Int) : Option (List (List Int)) := if mkGoodW zs = true then some (pathG (zs.getD 0 0) (zs.getD 1 0) (zs.getD 2 0)) else none
theorem mkGoodW_T3 {zs : List Int} (h : mkGoodW zs = true) : ∃ x y z, zs = [x, y, z] ∧ T3 x y z := by
  obtain ⟨x, y, z, rfl, hx, hy, hz, hxy, hyz, he⟩ := mkGoodW_three h
  exact ⟨x, y, z, rfl, hx, hy, hz, hxy, hyz, he⟩
theorem OwnRows.parts {lo hi : Nat} {w : World} {v : Value} {L : List (List Int)} (h : OwnRows lo hi w v L) : ∃ us : List Value, us.length = L.length ∧ w.ownsRow lo 39 1 v us.length us ∧ (∀ k, v.ownBlock = some k → k < hi) ∧
    (∀ i, i < L.length → OwnInts lo hi w (us.getD i undef) (L.getD i [])) ∧
    ∀ i j, i < j → j < L.length → ∀ k, (us.getD i undef).ownBlock = some k → (us.getD j undef).ownBlock ≠ some k := h
/-- one row of its own -/
theorem OwnRows.one {lo : Nat} {w : World} {u : Value} {r : List Int} (hlo : lo ≤ w.heap.size) (h : OwnInts lo w.heap.size w u r) :
    OwnRows lo (w.heap.size + 1) (w.alloc (.cells #[u] 39)) (.slice (some ⟨w.heap.size, 0, none⟩) 1 1) [r] := by
  have ho := World.ownsRow_lit (e := 39) (size := 1) w #[u] 1 (Nat.le_refl _) (by unfold maxLen; omega) (by simp)
  refine ⟨[u], rfl, by simpa using ownsRow_base ho hlo, fun b hb => by simp [Value.ownBlock] at hb; omega, fun i hi => ?_, fun i j hij hj => by simp at hj; omega⟩
  have h0 : i = 0 := by simpa using hi
  subst h0
  exact (h.later (Later.alloc _ _)).wide (Nat.le_refl _) (by omega)

/-- a row of ints stays where a row of rows grows -/
theorem OwnInts.kept {lo hi lo' n : Nat} {w w1 : World} {v u : Value} {zs : List Int} {us : List Value} (h : OwnInts lo hi w u zs) (ho : w.ownsRow lo' 39 1 v n us) (hg : w.grownBy w1 v.ownBlock) : OwnInts lo hi w1 u zs := by
  refine ⟨ownsRow_keep h.1 fun b hb => hg.block b (h.1.lt b hb).2 fun e => ?_, h.2⟩
  obtain ⟨c2, hc2⟩ := ownsRow_block ho e.symm
  exact h.ne hc2 hb
def lenOf : Value → Nat
  | .slice _ n _ => n
  | _ => 0

theorem OwnRows.none_ (lo hi : Nat) (w : World) : OwnRows lo hi w (.slice none 0 0) [] :=
  ⟨[], rfl, World.ownsRow_nil _ _ _ _, fun b hb => by simp [Value.ownBlock] at hb, fun i hi => absurd hi (Nat.not_lt_zero i), fun i j _ hj => absurd hj (Nat.not_lt_zero j)⟩
end Go.Proofs.Ytdahhcigphhfdab
