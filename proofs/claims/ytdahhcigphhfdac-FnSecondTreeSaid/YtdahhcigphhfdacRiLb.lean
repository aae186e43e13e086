/- Right triples: the matrices of the trees take sides to sides and keep the form. -/
import Derived.Test.YtdahhcigphhfdacRiLa
import Derived.Test.YtdahhcigphhfdacRiXa
import Derived.Test.YtdahhcigphhfdacPrAB
import Derived.Test.YtdahhcigphhfdacKeep
import Derived.Test.YtdahhcigphhfdacDet
import Derived.Test.YtdahhcigphhfdacCuG
namespace Go.Proofs.Ytdahhcigphhfdac
open Go.RowKit

def formR : List (List Int) := [[1, 0, 0], [0, 1, 0], [0, 0, -1]]
theorem wrapR {z : Int} (h : -9223372036854775808 ≤ z ∧ z ≤ 9223372036854775807) : wrap64 z = z := IntWalk.wrap64_in _ (by omega)
theorem within_R {lo hi z : Int} (h : lo ≤ z ∧ z ≤ hi) : within lo hi z = true := by unfold within; simp; omega
theorem dot3R {a b c x y z : Int} (ha : -3 ≤ a ∧ a ≤ 3) (hb : -3 ≤ b ∧ b ≤ 3) (hc : -3 ≤ c ∧ c ≤ 3) (hx : -1000000 ≤ x ∧ x ≤ 1000000) (hy : -1000000 ≤ y ∧ y ≤ 1000000) (hz : -1000000 ≤ z ∧ z ≤ 1000000) :
    dotW [a, b, c] [x, y, z] = a * x + b * y + c * z := by
  have e : dotW [a, b, c] [x, y, z] = wrap64 (wrap64 (wrap64 (0 + wrap64 (a * x)) + wrap64 (b * y)) + wrap64 (c * z)) := rfl
  have p1 := mulBdG (x := a) (y := x) (B := 3) (C := 1000000) (by omega) (by omega)
  have p2 := mulBdG (x := b) (y := y) (B := 3) (C := 1000000) (by omega) (by omega)
  have p3 := mulBdG (x := c) (y := z) (B := 3) (C := 1000000) (by omega) (by omega)
  rw [e]
  generalize a * x = p at *
  generalize b * y = q at *
  generalize c * z = r at *
  rw [wrapR (z := p) (by omega), wrapR (z := q) (by omega), wrapR (z := r) (by omega), wrapR (z := 0 + p) (by omega), wrapR (z := 0 + p + q) (by omega), wrapR (z := 0 + p + q + r) (by omega)]
  omega
theorem apply3R {a b c d e f g h i x y z X Y Z : Int} (h1 : -3 ≤ a ∧ a ≤ 3) (h2 : -3 ≤ b ∧ b ≤ 3) (h3 : -3 ≤ c ∧ c ≤ 3) (h4 : -3 ≤ d ∧ d ≤ 3) (h5 : -3 ≤ e ∧ e ≤ 3) (h6 : -3 ≤ f ∧ f ≤ 3)
    (h7 : -3 ≤ g ∧ g ≤ 3) (h8 : -3 ≤ h ∧ h ≤ 3) (h9 : -3 ≤ i ∧ i ≤ 3) (hx : -1000000 ≤ x ∧ x ≤ 1000000) (hy : -1000000 ≤ y ∧ y ≤ 1000000) (hz : -1000000 ≤ z ∧ z ≤ 1000000)
    (eX : a * x + b * y + c * z = X) (eY : d * x + e * y + f * z = Y) (eZ : g * x + h * y + i * z = Z) (bX : -1000000 ≤ X ∧ X ≤ 1000000) (bY : -1000000 ≤ Y ∧ Y ≤ 1000000) (bZ : -1000000 ≤ Z ∧ Z ≤ 1000000) :
    applyAns [[a, b, c], [d, e, f], [g, h, i]] [x, y, z] = some [X, Y, Z] := by
  have ea : applyW [[a, b, c], [d, e, f], [g, h, i]] [x, y, z] = [X, Y, Z] := by
    show [dotW [a, b, c] [x, y, z], dotW [d, e, f] [x, y, z], dotW [g, h, i] [x, y, z]] = _
    rw [dot3R h1 h2 h3 hx hy hz, dot3R h4 h5 h6 hx hy hz, dot3R h7 h8 h9 hx hy hz, eX, eY, eZ]
  unfold applyAns
  rw [ea, if_pos]
  have w : ∀ q : Int, -3 ≤ q ∧ q ≤ 3 → within (-1000000) 1000000 q = true := fun q hq => within_R (by omega)
  simp [matVec, vecOK, goodM, rowGood, within_R hx, within_R hy, within_R hz, within_R bX, within_R bY, within_R bZ, w a h1, w b h2, w c h3, w d h4, w e h5, w f h6, w g h7, w h h8, w i h9]
theorem form_atR {x y z : Int} (hx : -1000 ≤ x ∧ x ≤ 1000) (hy : -1000 ≤ y ∧ y ≤ 1000) (hz : -1000 ≤ z ∧ z ≤ 1000) : prodAns formR [x, y, z] [x, y, z] = some (x * x + y * y - z * z) := by
  have ea : applyW formR [x, y, z] = [x, y, -z] := by
    show [dotW [1, 0, 0] [x, y, z], dotW [0, 1, 0] [x, y, z], dotW [0, 0, -1] [x, y, z]] = _
    rw [dot3R (by omega) (by omega) (by omega) (by omega) (by omega) (by omega), dot3R (by omega) (by omega) (by omega) (by omega) (by omega) (by omega), dot3R (by omega) (by omega) (by omega) (by omega) (by omega) (by omega)]
    simp only [List.cons.injEq, and_true]
    omega
  have ed : dotW [x, y, z] [x, y, -z] = wrap64 (wrap64 (wrap64 (0 + wrap64 (x * x)) + wrap64 (y * y)) + wrap64 (z * (-z))) := rfl
  have p1 := mulBdG (x := x) (y := x) (B := 1000) (C := 1000) (by omega) (by omega)
  have p2 := mulBdG (x := y) (y := y) (B := 1000) (C := 1000) (by omega) (by omega)
  have p3 := mulBdG (x := z) (y := z) (B := 1000) (C := 1000) (by omega) (by omega)
  unfold prodAns
  rw [ea, ed, if_pos]
  · rw [Int.mul_neg]
    generalize x * x = p at *
    generalize y * y = q at *
    generalize z * z = r at *
    rw [wrapR (z := p) (by omega), wrapR (z := q) (by omega), wrapR (z := -r) (by omega), wrapR (z := 0 + p) (by omega), wrapR (z := 0 + p + q) (by omega), wrapR (z := 0 + p + q + -r) (by omega)]
    rw [show (0 + p + q + -r) = p + q - r by omega]
  · have w1 : vecOK formR.length [x, y, z] = true := by
      simp [vecOK, formR, within_R (lo := -1000000) (hi := 1000000) (z := x) (by omega), within_R (lo := -1000000) (hi := 1000000) (z := y) (by omega), within_R (lo := -1000000) (hi := 1000000) (z := z) (by omega)]
    rw [w1, show formW formR = true by kernel_rfl]
    rfl
theorem sides_le {m n : Int} (h : Pair m n) : m * m - n * n ≤ m * m + n * n ∧ 2 * m * n ≤ m * m + n * n ∧ 1 ≤ m * m - n * n ∧ 1 ≤ 2 * m * n := by
  obtain ⟨p1, p2, p3, p4, p5, p6, p7⟩ := h.prods
  have h1 := h.h1
  have e : (m - n) * (m - n) = m * m + n * n - 2 * (m * n) := by grind
  have e2 : 0 ≤ (m - n) * (m - n) := Int.mul_nonneg (by have := h.h2; omega) (by have := h.h2; omega)
  omega
theorem berg_cases {k : Int} {M : List (List Int)} (h : bergM k = some M) : (k = 0 ∧ M = [[1, -2, 2], [2, -1, 2], [2, -2, 3]]) ∨ (k = 1 ∧ M = [[1, 2, 2], [2, 1, 2], [2, 2, 3]]) ∨ (k = 2 ∧ M = [[-1, 2, 2], [-2, 1, 2], [-2, 2, 3]]) := by
  unfold bergM at h
  split at h
  · injection h with h; exact .inl ⟨by assumption, h.symm⟩
  · split at h
    · injection h with h; exact .inr (.inl ⟨by assumption, h.symm⟩)
    · split at h
      · injection h with h; exact .inr (.inr ⟨by assumption, h.symm⟩)
      · cases h
theorem price_cases {k : Int} {M : List (List Int)} (h : priceM k = some M) : (k = 0 ∧ M = [[2, 1, -1], [-2, 2, 2], [-2, 1, 3]]) ∨ (k = 1 ∧ M = [[2, 1, 1], [2, -2, 2], [2, -1, 3]]) ∨ (k = 2 ∧ M = [[2, -1, 1], [2, 2, 2], [2, 1, 3]]) := by
  unfold priceM at h
  split at h
  · injection h with h; exact .inl ⟨by assumption, h.symm⟩
  · split at h
    · injection h with h; exact .inr (.inl ⟨by assumption, h.symm⟩)
    · split at h
      · injection h with h; exact .inr (.inr ⟨by assumption, h.symm⟩)
      · cases h
theorem berg_keeps {k : Int} {M : List (List Int)} (h : bergM k = some M) : keepAns M formR = some true ∧ (detAns M = some 1 ∨ detAns M = some (-1)) ∧ 0 ≤ k ∧ k ≤ 2 := by
  rcases berg_cases h with ⟨rfl, rfl⟩ | ⟨rfl, rfl⟩ | ⟨rfl, rfl⟩
  · exact ⟨by kernel_rfl, .inl (by kernel_rfl), by omega⟩
  · exact ⟨by kernel_rfl, .inr (by kernel_rfl), by omega⟩
  · exact ⟨by kernel_rfl, .inl (by kernel_rfl), by omega⟩
theorem bergM_some {k : Int} (h0 : 0 ≤ k) (h2 : k ≤ 2) : ∃ M, bergM k = some M := by
  have : k = 0 ∨ k = 1 ∨ k = 2 := by omega
  rcases this with rfl | rfl | rfl <;> exact ⟨_, rfl⟩
theorem priceM_some {k : Int} (h0 : 0 ≤ k) (h2 : k ≤ 2) : ∃ M, priceM k = some M := by
  have : k = 0 ∨ k = 1 ∨ k = 2 := by omega
  rcases this with rfl | rfl | rfl <;> exact ⟨_, rfl⟩
theorem bergM_is (k : Int) : (bergM k).isSome = (decide (0 ≤ k) && decide (k ≤ 2)) := by
  cases h : bergM k with
  | some M => obtain ⟨_, _, h1, h2⟩ := berg_keeps h; simp [h1, h2]
  | none =>
    symm
    simp only [Option.isSome_none, Bool.and_eq_false_iff, decide_eq_false_iff_not]
    apply Decidable.byContradiction
    intro hn
    obtain ⟨M, hM⟩ := bergM_some (k := k) (by omega) (by omega)
    rw [hM] at h; cases h
/-- a triple of the first tree and its child by the matrix -/
theorem berg_apply {m n k : Int} {M : List (List Int)} (hM : bergM k = some M) (hp : Pair m n) (hc : Pair (bergC m n k).1 (bergC m n k).2)
    (hz : (bergC m n k).1 * (bergC m n k).1 + (bergC m n k).2 * (bergC m n k).2 ≤ 1000000) : applyAns M (sidesL m n) = some (sidesL (bergC m n k).1 (bergC m n k).2) := by
  obtain ⟨b1, b2, b3, b4⟩ := sides_le hp
  obtain ⟨c1, c2, c3, c4⟩ := sides_le hc
  have h1 := hp.h1
  have h2 := hp.h2
  have hle : m * m + n * n ≤ 1000000 := by
    refine Int.le_trans ?_ hz
    have q1 := Int.mul_nonneg (show 0 ≤ m by omega) (show 0 ≤ n by omega)
    have q2 := Int.mul_nonneg (show 0 ≤ m - n by omega) (show 0 ≤ m by omega)
    have q3 := Int.mul_nonneg (show 0 ≤ m by omega) (show 0 ≤ m by omega)
    have q4 := Int.mul_nonneg (show 0 ≤ n by omega) (show 0 ≤ n by omega)
    rcases berg_cases hM with ⟨rfl, rfl⟩ | ⟨rfl, rfl⟩ | ⟨rfl, rfl⟩
    · have e : (bergC m n 0).1 * (bergC m n 0).1 + (bergC m n 0).2 * (bergC m n 0).2 = m * m + n * n + 4 * ((m - n) * m) := by simp only [bergC]; grind
      omega
    · have e : (bergC m n 1).1 * (bergC m n 1).1 + (bergC m n 1).2 * (bergC m n 1).2 = m * m + n * n + 4 * (m * m) + 4 * (m * n) := by simp only [bergC]; grind
      omega
    · have e : (bergC m n 2).1 * (bergC m n 2).1 + (bergC m n 2).2 * (bergC m n 2).2 = m * m + n * n + 4 * (n * n) + 4 * (m * n) := by simp only [bergC]; grind
      omega
  rcases berg_cases hM with ⟨rfl, rfl⟩ | ⟨rfl, rfl⟩ | ⟨rfl, rfl⟩
  all_goals
    unfold sidesL
    refine apply3R (by omega) (by omega) (by omega) (by omega) (by omega) (by omega) (by omega) (by omega) (by omega) (by omega) (by omega) (by omega) ?_ ?_ ?_ (by omega) (by omega) (by omega)
    · simp only [bergC]; grind
    · simp only [bergC]; grind
    · simp only [bergC]; grind
theorem price_apply {m n k : Int} {M : List (List Int)} (hM : priceM k = some M) (hp : Pair m n) (hc : Pair (priceC m n k).1 (priceC m n k).2)
    (hz : (priceC m n k).1 * (priceC m n k).1 + (priceC m n k).2 * (priceC m n k).2 ≤ 1000000) : applyAns M (sidesL m n) = some (sidesL (priceC m n k).1 (priceC m n k).2) := by
  obtain ⟨b1, b2, b3, b4⟩ := sides_le hp
  obtain ⟨c1, c2, c3, c4⟩ := sides_le hc
  have h1 := hp.h1
  have h2 := hp.h2
  have hle : m * m + n * n ≤ 1000000 := by
    refine Int.le_trans ?_ hz
    have q1 := Int.mul_nonneg (show 0 ≤ m by omega) (show 0 ≤ n by omega)
    have q2 := Int.mul_nonneg (show 0 ≤ m - n by omega) (show 0 ≤ m by omega)
    have q3 := Int.mul_nonneg (show 0 ≤ m by omega) (show 0 ≤ m by omega)
    have q4 := Int.mul_nonneg (show 0 ≤ n by omega) (show 0 ≤ n by omega)
    rcases price_cases hM with ⟨rfl, rfl⟩ | ⟨rfl, rfl⟩ | ⟨rfl, rfl⟩
    · have e : (priceC m n 0).1 * (priceC m n 0).1 + (priceC m n 0).2 * (priceC m n 0).2 = m * m + n * n + 4 * (n * n) + 2 * (m * n) := by simp only [priceC]; grind
      omega
    · have e : (priceC m n 1).1 * (priceC m n 1).1 + (priceC m n 1).2 * (priceC m n 1).2 = m * m + n * n + 2 * ((m - n) * m) + 2 * (m * m) := by simp only [priceC]; grind
      omega
    · have e : (priceC m n 2).1 * (priceC m n 2).1 + (priceC m n 2).2 * (priceC m n 2).2 = m * m + n * n + 4 * (m * m) + 2 * (m * n) := by simp only [priceC]; grind
      omega
  rcases price_cases hM with ⟨rfl, rfl⟩ | ⟨rfl, rfl⟩ | ⟨rfl, rfl⟩
  all_goals
    unfold sidesL
    refine apply3R (by omega) (by omega) (by omega) (by omega) (by omega) (by omega) (by omega) (by omega) (by omega) (by omega) (by omega) (by omega) ?_ ?_ ?_ (by omega) (by omega) (by omega)
    · simp only [priceC]; grind
    · simp only [priceC]; grind
    · simp only [priceC]; grind
/-- the second tree's matrices take the form to four times itself -/
theorem price_form {k x y z : Int} {M : List (List Int)} (hM : priceM k = some M) (hx : -20 ≤ x ∧ x ≤ 20) (hy : -20 ≤ y ∧ y ≤ 20) (hz : -20 ≤ z ∧ z ≤ 20) :
    ∃ X Y Z, applyAns M [x, y, z] = some [X, Y, Z] ∧ (-1000 ≤ X ∧ X ≤ 1000) ∧ (-1000 ≤ Y ∧ Y ≤ 1000) ∧ (-1000 ≤ Z ∧ Z ≤ 1000) ∧ X * X + Y * Y - Z * Z = 4 * (x * x + y * y - z * z) := by
  rcases price_cases hM with ⟨rfl, rfl⟩ | ⟨rfl, rfl⟩ | ⟨rfl, rfl⟩
  all_goals
    refine ⟨_, _, _, apply3R (by omega) (by omega) (by omega) (by omega) (by omega) (by omega) (by omega) (by omega) (by omega) (by omega) (by omega) (by omega) rfl rfl rfl (by omega) (by omega) (by omega), by omega, by omega, by omega, by grind⟩
end Go.Proofs.Ytdahhcigphhfdac
