/- Pure facts for the big laws on sums of squares: descents end with 1, two squares of a prime number are told in one way, products of sums. -/
import Derived.Test.YtofmmegpadojlaaSqCD4
namespace Go.Proofs.Ytofmmegpadojlaa.Sq

theorem mul4_sum (x y : Q4) : (mul4 x y).sum = x.sum * y.sum := by
  obtain ⟨a, b, c, d⟩ := x
  obtain ⟨e, f, g, h⟩ := y
  simp only [mul4, Q4.sum]
  grind
theorem sum_zero {a b c d : Int} (h : a * a + b * b + c * c + d * d = 0) : a = 0 ∧ b = 0 ∧ c = 0 ∧ d = 0 := by
  have h1 := sq0 a
  have h2 := sq0 b
  have h3 := sq0 c
  have h4 := sq0 d
  have t : ∀ z : Int, z * z = 0 → z = 0 := fun z hz => by
    rcases Int.mul_eq_zero.1 hz with h | h <;> exact h
  exact ⟨t _ (by omega), t _ (by omega), t _ (by omega), t _ (by omega)⟩
theorem iabs_zero {a : Int} (h : iabs a = 0) : a = 0 := by unfold iabs at h; split at h <;> omega
theorem near_zero {a m : Int} (h : near a m = 0) : m ∣ a := by
  obtain ⟨i, hi⟩ := near_dvd a m
  exact ⟨i, by omega⟩
theorem D4.pos {p m r : Int} {q : Q4} (h : D4 p q m) (hp : 0 < p) (hm : 1 < m) (hpr : ∀ d : Int, 1 < d → d < p → ¬ d ∣ p) (hr : D4 p (st4 q m) r) (hr0 : 0 ≤ r) : 0 < r := by
  refine Int.lt_iff_le_and_ne.2 ⟨hr0, fun h0 => ?_⟩
  have e0 := hr.eq
  rw [← h0, Int.zero_mul] at e0
  obtain ⟨a, b, c, d⟩ := q
  obtain ⟨i, hi⟩ := near_dvd a m
  obtain ⟨j, hj⟩ := near_dvd b m
  obtain ⟨k, hk⟩ := near_dvd c m
  obtain ⟨l, hl⟩ := near_dvd d m
  have e : a * a + b * b + c * c + d * d = m * p := h.eq
  have e1 : a * near a m + b * near b m + c * near c m + d * near d m = m * (p - a * i - b * j - c * k - d * l) := by rw [hi, hj, hk, hl]; grind
  have e2 : a * near b m - b * near a m + c * near d m - d * near c m = m * (b * i - a * j + d * k - c * l) := by rw [hi, hj, hk, hl]; grind
  have e3 : a * near c m - c * near a m + d * near b m - b * near d m = m * (c * i - a * k + b * l - d * j) := by rw [hi, hj, hk, hl]; grind
  have e4 : a * near d m - d * near a m + b * near c m - c * near b m = m * (d * i - a * l + c * j - b * k) := by rw [hi, hj, hk, hl]; grind
  have hs : st4 ⟨a, b, c, d⟩ m = ⟨iabs (p - a * i - b * j - c * k - d * l), iabs (b * i - a * j + d * k - c * l), iabs (c * i - a * k + b * l - d * j), iabs (d * i - a * l + c * j - b * k)⟩ := by
    unfold st4 mul4 Q4.map
    simp only [e1, e2, e3, e4, iabs_div _ _ (show 0 < m by omega)]
  rw [hs] at e0
  obtain ⟨z1, z2, z3, z4⟩ := sum_zero e0
  rw [iabs_zero z1, Int.mul_zero] at e1
  rw [iabs_zero z2, Int.mul_zero] at e2
  rw [iabs_zero z3, Int.mul_zero] at e3
  rw [iabs_zero z4, Int.mul_zero] at e4
  have hn := mul4_sum ⟨a, b, c, d⟩ ⟨near a m, near b m, near c m, near d m⟩
  simp only [mul4, Q4.sum, e1, e2, e3, e4, e] at hn
  have hmp : 0 < m * p := Int.mul_pos (by omega) hp
  have hz : near a m * near a m + near b m * near b m + near c m * near c m + near d m * near d m = 0 := by
    rcases Int.mul_eq_zero.1 (show m * p * (near a m * near a m + near b m * near b m + near c m * near c m + near d m * near d m) = 0 by omega) with hh | hh
    · omega
    · exact hh
  obtain ⟨n1, n2, n3, n4⟩ := sum_zero hz
  obtain ⟨a', rfl⟩ := near_zero n1
  obtain ⟨b', rfl⟩ := near_zero n2
  obtain ⟨c', rfl⟩ := near_zero n3
  obtain ⟨d', rfl⟩ := near_zero n4
  refine hpr m hm h.mp ⟨a' * a' + b' * b' + c' * c' + d' * d', ?_⟩
  refine Int.eq_of_mul_eq_mul_left (show m ≠ 0 by omega) ?_
  rw [← e]; grind
theorem D2.pos {p m r a b : Int} (h : D2 p a b m) (hp : 0 < p) (hm : 1 < m) (hpr : ∀ d : Int, 1 < d → d < p → ¬ d ∣ p) (hr : D2 p (st2 a b m).1 (st2 a b m).2 r) (hr0 : 0 ≤ r) : 0 < r := by
  refine Int.lt_iff_le_and_ne.2 ⟨hr0, fun h0 => ?_⟩
  have e0 := hr.eq
  rw [← h0, Int.zero_mul] at e0
  obtain ⟨i, hi⟩ := near_dvd a m
  obtain ⟨j, hj⟩ := near_dvd b m
  have e : a * a + b * b = m * p := h.eq
  have e1 : a * near a m + b * near b m = m * (p - a * i - b * j) := by rw [hi, hj]; grind
  have e2 : a * near b m - b * near a m = m * (b * i - a * j) := by rw [hi, hj]; grind
  have hs : st2 a b m = (iabs (p - a * i - b * j), iabs (b * i - a * j)) := by
    unfold st2
    simp only [e1, e2, iabs_div _ _ (show 0 < m by omega)]
  rw [hs] at e0
  obtain ⟨z1, z2, _⟩ := sum_zero (c := 0) (d := 0) (show iabs (p - a * i - b * j) * iabs (p - a * i - b * j) + iabs (b * i - a * j) * iabs (b * i - a * j) + 0 * 0 + 0 * 0 = 0 by simp only at e0; omega)
  rw [iabs_zero z1, Int.mul_zero] at e1
  rw [iabs_zero z2, Int.mul_zero] at e2
  have hn : (a * near a m + b * near b m) * (a * near a m + b * near b m) + (a * near b m - b * near a m) * (a * near b m - b * near a m) = (a * a + b * b) * (near a m * near a m + near b m * near b m) := by grind
  rw [e1, e2, e] at hn
  have hmp : 0 < m * p := Int.mul_pos (by omega) hp
  have hz : near a m * near a m + near b m * near b m = 0 := by
    rcases Int.mul_eq_zero.1 (show m * p * (near a m * near a m + near b m * near b m) = 0 by omega) with hh | hh
    · omega
    · exact hh
  obtain ⟨n1, n2, _⟩ := sum_zero (c := 0) (d := 0) (show near a m * near a m + near b m * near b m + 0 * 0 + 0 * 0 = 0 by omega)
  obtain ⟨a', rfl⟩ := near_zero n1
  obtain ⟨b', rfl⟩ := near_zero n2
  refine hpr m hm h.mp ⟨a' * a' + b' * b', ?_⟩
  refine Int.eq_of_mul_eq_mul_left (show m ≠ 0 by omega) ?_
  rw [← e]; grind
theorem two_unique {p : Nat} {a b c d : Int} (hp : Prim p) (ha : 0 < a) (hb : 0 < b) (hc : 0 < c) (hd : 0 < d) (h1 : a * a + b * b = p) (h2 : c * c + d * d = p) : (a = c ∧ b = d) ∨ (a = d ∧ b = c) := by
  have hp0 : (0 : Int) < p := by have := hp.1; omega
  have hdv : (p : Int) ∣ (a * d - b * c) * (a * d + b * c) := ⟨d * d - b * b, by
    have e1 : a * a = p - b * b := by omega
    have e2 : c * c = p - d * d := by omega
    have : (a * d - b * c) * (a * d + b * c) = (a * a) * (d * d) - (b * b) * (c * c) := by grind
    rw [this, e1, e2]; grind⟩
  have hsq : ∀ {x y : Int}, 0 < x → 0 < y → x * x = y * y → x = y := fun {x y} hx hy h => by
    have : (x - y) * (x + y) = 0 := by grind
    rcases Int.mul_eq_zero.1 this with h | h <;> omega
  have had := Int.mul_pos ha hd
  have hbc := Int.mul_pos hb hc
  have hac := Int.mul_pos ha hc
  have hbd := Int.mul_pos hb hd
  have hpp : ∀ x : Int, x * x = x * x → 0 ≤ x * x := fun x _ => sq0 x
  rcases hp.idvd_mul hdv with h | h
  · have hn : (a * c + b * d) * (a * c + b * d) + (a * d - b * c) * (a * d - b * c) = p * p := by
      have : (a * c + b * d) * (a * c + b * d) + (a * d - b * c) * (a * d - b * c) = (a * a + b * b) * (c * c + d * d) := by grind
      rw [this, h1, h2]
    have hlt : (a * d - b * c) * (a * d - b * c) < p * p := by
      have := Int.mul_pos (show 0 < a * c + b * d by omega) (show 0 < a * c + b * d by omega)
      omega
    obtain ⟨k, hk⟩ := h
    have hb := le_sq (x := a * d - b * c) (y := p) (by omega) hlt
    have hk0 : k = 0 := by
      rw [hk] at hb
      have hbl := hb.1
      have hbu := hb.2
      have u1 : k < 1 := Int.lt_of_mul_lt_mul_left (a := (p : Int)) (by omega) (by omega)
      have u2 : -1 < k := Int.lt_of_mul_lt_mul_left (a := (p : Int)) (by omega) (by omega)
      omega
    rw [hk0, Int.mul_zero] at hk
    have e3 : (a * a) * p = (c * c) * p := by
      have : (a * d) * (a * d) = (b * c) * (b * c) := by rw [show a * d = b * c by omega]
      have e4 : (a * a) * (d * d) = (b * b) * (c * c) := by grind
      rw [show d * d = p - c * c by omega, show b * b = p - a * a by omega] at e4
      grind
    have e5 := hsq ha hc (Int.eq_of_mul_eq_mul_right (by omega) e3)
    refine .inl ⟨e5, hsq (by omega) hd ?_⟩
    rw [e5] at h1; omega
  · have hn : (a * c - b * d) * (a * c - b * d) + (a * d + b * c) * (a * d + b * c) = p * p := by
      have : (a * c - b * d) * (a * c - b * d) + (a * d + b * c) * (a * d + b * c) = (a * a + b * b) * (c * c + d * d) := by grind
      rw [this, h1, h2]
    have hle : (a * d + b * c) * (a * d + b * c) ≤ p * p := by have := sq0 (a * c - b * d); omega
    obtain ⟨k, hk⟩ := h
    have hk1 : k = 1 := by
      have u0 : 0 < k := by
        refine Int.not_le.1 fun hk0 => ?_
        have := Int.mul_nonpos_of_nonneg_of_nonpos (show (0 : Int) ≤ p by omega) hk0
        omega
      refine Int.le_antisymm (Int.not_lt.1 fun u1 => ?_) (by omega)
      have u2 : (p : Int) * 2 ≤ p * k := Int.mul_le_mul_of_nonneg_left (by omega) (by omega)
      have u3 := sq_le (x := p * 2) (y := a * d + b * c) (by omega) (by omega)
      have u4 : (p : Int) * 2 * (p * 2) = 4 * (p * p) := by grind
      have u5 := Int.mul_pos hp0 hp0
      omega
    rw [hk1, Int.mul_one] at hk
    rw [hk] at hn
    have e0 : a * c - b * d = 0 := by
      have : (a * c - b * d) * (a * c - b * d) = 0 := by omega
      rcases Int.mul_eq_zero.1 this with h | h <;> exact h
    have e4 : (a * a) * (c * c) = (b * b) * (d * d) := by
      have : (a * c) * (a * c) = (b * d) * (b * d) := by rw [show a * c = b * d by omega]
      grind
    rw [show d * d = p - c * c by omega, show b * b = p - a * a by omega] at e4
    have e3 : (a * a) * p = (d * d) * p := by
      rw [show d * d = p - c * c by omega]
      grind
    have e5 := hsq ha hd (Int.eq_of_mul_eq_mul_right (by omega) e3)
    refine .inr ⟨e5, hsq (by omega) hc ?_⟩
    rw [e5] at h1; omega
end Go.Proofs.Ytofmmegpadojlaa.Sq
