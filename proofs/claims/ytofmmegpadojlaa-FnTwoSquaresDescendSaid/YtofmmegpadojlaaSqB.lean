/- The descents of two and of four squares: what holds along them, and that the multiple falls. -/
import Derived.WalkKit
namespace Go.Proofs.Ytofmmegpadojlaa.Sq
def near (a m : Int) : Int := if 2 * (a % m) > m then a % m - m else a % m
theorem near_dvd (a m : Int) : ∃ i, near a m = a - m * i := by
  have h := Int.mul_ediv_add_emod a m
  unfold near
  split
  · exact ⟨a / m + 1, by grind⟩
  · exact ⟨a / m, by grind⟩
theorem near_in (a m : Int) (hm : 0 < m) : -m < 2 * near a m ∧ 2 * near a m ≤ m := by
  have h1 := Int.emod_nonneg a (show m ≠ 0 by omega)
  have h2 := Int.emod_lt_of_pos a hm
  unfold near
  split <;> omega
theorem sq_le {x y : Int} (h1 : -y ≤ x) (h2 : x ≤ y) : x * x ≤ y * y := by
  have h3 : 0 ≤ (y - x) * (y + x) := Int.mul_nonneg (by omega) (by omega)
  grind
theorem le_sq {x y : Int} (hy : 0 ≤ y) (h : x * x < y * y) : -y < x ∧ x < y := by
  constructor
  · refine Int.not_le.1 fun hx => ?_
    have := Int.mul_nonneg (show 0 ≤ -x - y by omega) (show 0 ≤ -x + y by omega)
    grind
  · refine Int.not_le.1 fun hx => ?_
    have := Int.mul_nonneg (show 0 ≤ x - y by omega) (show 0 ≤ x + y by omega)
    grind
def iabs (a : Int) : Int := if a < 0 then -a else a
theorem iabs_sq (a : Int) : iabs a * iabs a = a * a := by unfold iabs; split <;> grind
theorem iabs_nonneg (a : Int) : 0 ≤ iabs a := by unfold iabs; split <;> omega
theorem iabs_mul (m a : Int) (hm : 0 < m) : iabs (m * a) = m * iabs a := by
  unfold iabs
  by_cases h : a < 0
  · have : m * a < 0 := Int.mul_neg_of_pos_of_neg hm h
    rw [if_pos h, if_pos this]; grind
  · have : 0 ≤ m * a := Int.mul_nonneg (by omega) (by omega)
    rw [if_neg h, if_neg (by omega)]
theorem iabs_div (m a : Int) (hm : 0 < m) : iabs (m * a) / m = iabs a := by
  rw [iabs_mul m a hm]; exact Int.mul_ediv_cancel_left _ (by omega)

/-! ### two squares -/
def st2 (a b m : Int) : Int × Int :=
  (iabs (a * near a m + b * near b m) / m, iabs (a * near b m - b * near a m) / m)
/-- What holds along the descent: m p is the sum, with m below p. -/
structure D2 (p a b m : Int) : Prop where
  a0 : 0 ≤ a
  b0 : 0 ≤ b
  eq : a * a + b * b = m * p
  mp : m < p
theorem D2.le {p a b m : Int} (h : D2 p a b m) (hp : 0 < p) : 0 ≤ m ∧ a < p ∧ b < p := by
  have e := h.eq
  have h1 := Int.mul_nonneg h.a0 h.a0
  have h2 := Int.mul_nonneg h.b0 h.b0
  have hm : 0 ≤ m := by
    refine Int.not_lt.1 fun hm => ?_
    have := Int.mul_neg_of_neg_of_pos hm hp
    omega
  have h3 := Int.mul_lt_mul_of_pos_right h.mp hp
  exact ⟨hm, (le_sq (by omega) (by omega)).2, (le_sq (by omega) (by omega)).2⟩
theorem D2.step {p a b m : Int} (h : D2 p a b m) (hp : 0 < p) (hm : 1 < m) : ∃ r, D2 p (st2 a b m).1 (st2 a b m).2 r ∧ 2 * r ≤ m ∧ 0 ≤ r := by
  obtain ⟨i, hi⟩ := near_dvd a m
  obtain ⟨j, hj⟩ := near_dvd b m
  obtain ⟨u1, u2⟩ := near_in a m (by omega)
  obtain ⟨v1, v2⟩ := near_in b m (by omega)
  have e := h.eq
  have e1 : a * near a m + b * near b m = m * (p - a * i - b * j) := by rw [hi, hj]; grind
  have e2 : a * near b m - b * near a m = m * (b * i - a * j) := by rw [hi, hj]; grind
  have s1 : (st2 a b m).1 = iabs (p - a * i - b * j) := by show iabs (a * near a m + b * near b m) / m = _; rw [e1, iabs_div _ _ (by omega)]
  have s2 : (st2 a b m).2 = iabs (b * i - a * j) := by show iabs (a * near b m - b * near a m) / m = _; rw [e2, iabs_div _ _ (by omega)]
  have hr : near a m * near a m + near b m * near b m = m * (p - 2 * (a * i + b * j) + m * (i * i + j * j)) := by rw [hi, hj]; grind
  have g1 := sq_le (x := 2 * near a m) (y := m) (by omega) (by omega)
  have g2 := sq_le (x := 2 * near b m) (y := m) (by omega) (by omega)
  have g3 : 2 * (near a m * near a m + near b m * near b m) ≤ m * m := by grind
  have g4 : 0 ≤ near a m * near a m + near b m * near b m := by
    have k1 : 0 ≤ near a m * near a m := by rw [← iabs_sq]; exact Int.mul_nonneg (iabs_nonneg _) (iabs_nonneg _)
    have k2 : 0 ≤ near b m * near b m := by rw [← iabs_sq]; exact Int.mul_nonneg (iabs_nonneg _) (iabs_nonneg _)
    omega
  have hsum : (p - a * i - b * j) * (p - a * i - b * j) + (b * i - a * j) * (b * i - a * j) = (p - 2 * (a * i + b * j) + m * (i * i + j * j)) * p := by grind
  generalize p - 2 * (a * i + b * j) + m * (i * i + j * j) = r at hr hsum
  rw [hr] at g3 g4
  have hr2 : 2 * r ≤ m := by
    refine Int.le_of_mul_le_mul_left (a := m) ?_ (by omega)
    have : m * (2 * r) = 2 * (m * r) := by grind
    omega
  have hr0 : 0 ≤ r := by
    refine Int.not_lt.1 fun hh => ?_
    have := Int.mul_neg_of_pos_of_neg (show 0 < m by omega) hh
    omega
  have hmp := h.mp
  exact ⟨r, ⟨by rw [s1]; exact iabs_nonneg _, by rw [s2]; exact iabs_nonneg _, by rw [s1, s2, iabs_sq, iabs_sq]; exact hsum, by omega⟩, hr2, hr0⟩

/-! ### four squares -/
structure Q4 where
  a : Int
  b : Int
  c : Int
  d : Int
def Q4.sum (q : Q4) : Int := q.a * q.a + q.b * q.b + q.c * q.c + q.d * q.d
def mul4 (x y : Q4) : Q4 :=
  ⟨x.a * y.a + x.b * y.b + x.c * y.c + x.d * y.d, x.a * y.b - x.b * y.a + x.c * y.d - x.d * y.c, x.a * y.c - x.c * y.a + x.d * y.b - x.b * y.d, x.a * y.d - x.d * y.a + x.b * y.c - x.c * y.b⟩
def Q4.map (f : Int → Int) (q : Q4) : Q4 := ⟨f q.a, f q.b, f q.c, f q.d⟩
def st4 (q : Q4) (m : Int) : Q4 := (mul4 q (q.map (near · m))).map fun x => iabs x / m
structure D4 (p : Int) (q : Q4) (m : Int) : Prop where
  a0 : 0 ≤ q.a
  b0 : 0 ≤ q.b
  c0 : 0 ≤ q.c
  d0 : 0 ≤ q.d
  eq : q.sum = m * p
  mp : m < p
theorem D4.le {p m : Int} {q : Q4} (h : D4 p q m) (hp : 0 < p) : 0 ≤ m ∧ q.a < p ∧ q.b < p ∧ q.c < p ∧ q.d < p := by
  have e := h.eq
  unfold Q4.sum at e
  have h1 := Int.mul_nonneg h.a0 h.a0
  have h2 := Int.mul_nonneg h.b0 h.b0
  have h3 := Int.mul_nonneg h.c0 h.c0
  have h4 := Int.mul_nonneg h.d0 h.d0
  have hm : 0 ≤ m := by
    refine Int.not_lt.1 fun hm => ?_
    have := Int.mul_neg_of_neg_of_pos hm hp
    omega
  have h5 := Int.mul_lt_mul_of_pos_right h.mp hp
  exact ⟨hm, (le_sq (by omega) (by omega)).2, (le_sq (by omega) (by omega)).2, (le_sq (by omega) (by omega)).2, (le_sq (by omega) (by omega)).2⟩
theorem sq0 (x : Int) : 0 ≤ x * x := by rw [← iabs_sq]; exact Int.mul_nonneg (iabs_nonneg _) (iabs_nonneg _)
theorem D4.step {p m : Int} {q : Q4} (h : D4 p q m) (_hp : 0 < p) (hm : 1 < m) (hpr : ∀ d : Int, 1 < d → d < p → ¬ d ∣ p) : ∃ r, D4 p (st4 q m) r ∧ r < m ∧ 0 ≤ r := by
  obtain ⟨i, hi⟩ := near_dvd q.a m
  obtain ⟨j, hj⟩ := near_dvd q.b m
  obtain ⟨k, hk⟩ := near_dvd q.c m
  obtain ⟨l, hl⟩ := near_dvd q.d m
  obtain ⟨u1, u2⟩ := near_in q.a m (by omega)
  obtain ⟨v1, v2⟩ := near_in q.b m (by omega)
  obtain ⟨w1, w2⟩ := near_in q.c m (by omega)
  obtain ⟨x1, x2⟩ := near_in q.d m (by omega)
  have e : q.a * q.a + q.b * q.b + q.c * q.c + q.d * q.d = m * p := h.eq
  obtain ⟨a, b, c, d⟩ := q
  simp only at hi hj hk hl u1 u2 v1 v2 w1 w2 x1 x2 e
  have e1 : a * near a m + b * near b m + c * near c m + d * near d m = m * (p - a * i - b * j - c * k - d * l) := by rw [hi, hj, hk, hl]; grind
  have e2 : a * near b m - b * near a m + c * near d m - d * near c m = m * (b * i - a * j + d * k - c * l) := by rw [hi, hj, hk, hl]; grind
  have e3 : a * near c m - c * near a m + d * near b m - b * near d m = m * (c * i - a * k + b * l - d * j) := by rw [hi, hj, hk, hl]; grind
  have e4 : a * near d m - d * near a m + b * near c m - c * near b m = m * (d * i - a * l + c * j - b * k) := by rw [hi, hj, hk, hl]; grind
  have hs : st4 ⟨a, b, c, d⟩ m = ⟨iabs (p - a * i - b * j - c * k - d * l), iabs (b * i - a * j + d * k - c * l), iabs (c * i - a * k + b * l - d * j), iabs (d * i - a * l + c * j - b * k)⟩ := by
    unfold st4 mul4 Q4.map
    simp only [e1, e2, e3, e4, iabs_div _ _ (show 0 < m by omega)]
  have hr : near a m * near a m + near b m * near b m + near c m * near c m + near d m * near d m = m * (p - 2 * (a * i + b * j + c * k + d * l) + m * (i * i + j * j + k * k + l * l)) := by rw [hi, hj, hk, hl]; grind
  have g1 := sq_le (x := 2 * near a m) (y := m) (by omega) (by omega)
  have g2 := sq_le (x := 2 * near b m) (y := m) (by omega) (by omega)
  have g3 := sq_le (x := 2 * near c m) (y := m) (by omega) (by omega)
  have g4 := sq_le (x := 2 * near d m) (y := m) (by omega) (by omega)
  have n1 := sq0 (near a m)
  have n2 := sq0 (near b m)
  have n3 := sq0 (near c m)
  have n4 := sq0 (near d m)
  have hsum : (p - a * i - b * j - c * k - d * l) * (p - a * i - b * j - c * k - d * l) + (b * i - a * j + d * k - c * l) * (b * i - a * j + d * k - c * l) + (c * i - a * k + b * l - d * j) * (c * i - a * k + b * l - d * j) + (d * i - a * l + c * j - b * k) * (d * i - a * l + c * j - b * k)
      = (p - 2 * (a * i + b * j + c * k + d * l) + m * (i * i + j * j + k * k + l * l)) * p := by grind
  generalize hrr : p - 2 * (a * i + b * j + c * k + d * l) + m * (i * i + j * j + k * k + l * l) = r at hr hsum
  have hr0 : 0 ≤ r := by
    refine Int.not_lt.1 fun hh => ?_
    have := Int.mul_neg_of_pos_of_neg (show 0 < m by omega) hh
    omega
  have f1 : (2 * near a m) * (2 * near a m) = 4 * (near a m * near a m) := by grind
  have f2 : (2 * near b m) * (2 * near b m) = 4 * (near b m * near b m) := by grind
  have f3 : (2 * near c m) * (2 * near c m) = 4 * (near c m * near c m) := by grind
  have f4 : (2 * near d m) * (2 * near d m) = 4 * (near d m * near d m) := by grind
  have hle : m * r ≤ m * m := by omega
  have hr1 : r ≤ m := Int.le_of_mul_le_mul_left hle (by omega)
  have hmp := h.mp
  have hne : r ≠ m := by
    intro hh
    have t : ∀ y : Int, -m < y → y ≤ m → y * y = m * m → y = m := by
      intro y y1 y2 y3
      refine Int.le_antisymm y2 (Int.not_lt.1 fun y4 => ?_)
      have : 0 < (m - y) * (m + y) := Int.mul_pos (by omega) (by omega)
      grind
    rw [hh] at hr
    have t1 := t _ u1 u2 (by omega)
    have t2 := t _ v1 v2 (by omega)
    have t3 := t _ w1 w2 (by omega)
    have t4 := t _ x1 x2 (by omega)
    refine hpr m hm hmp ⟨1 + (i * i + i) + (j * j + j) + (k * k + k) + (l * l + l), ?_⟩
    have z1 : 2 * a = m + 2 * (m * i) := by omega
    have z2 : 2 * b = m + 2 * (m * j) := by omega
    have z3 : 2 * c = m + 2 * (m * k) := by omega
    have z4 : 2 * d = m + 2 * (m * l) := by omega
    have z5 : 4 * (m * p) = 4 * (m * (m * (1 + (i * i + i) + (j * j + j) + (k * k + k) + (l * l + l)))) := by
      have y1 : 4 * (a * a) = (2 * a) * (2 * a) := by grind
      have y2 : 4 * (b * b) = (2 * b) * (2 * b) := by grind
      have y3 : 4 * (c * c) = (2 * c) * (2 * c) := by grind
      have y4 : 4 * (d * d) = (2 * d) * (2 * d) := by grind
      have y5 : 4 * (m * p) = (2 * a) * (2 * a) + (2 * b) * (2 * b) + (2 * c) * (2 * c) + (2 * d) * (2 * d) := by rw [← y1, ← y2, ← y3, ← y4]; omega
      rw [y5, z1, z2, z3, z4]
      grind
    exact Int.eq_of_mul_eq_mul_left (show m ≠ 0 by omega) (by omega)
  exact ⟨r, ⟨by rw [hs]; exact iabs_nonneg _, by rw [hs]; exact iabs_nonneg _, by rw [hs]; exact iabs_nonneg _, by rw [hs]; exact iabs_nonneg _, by rw [hs]; unfold Q4.sum; simp only [iabs_sq]; exact hsum, by omega⟩, by omega, hr0⟩
end Go.Proofs.Ytofmmegpadojlaa.Sq
