/- Quads: swaps as matrices, the form of Descartes, scales (arithmetic). -/
import Derived.Test.YtoaopmafokoaoabQdOPL
import Derived.Test.YtoaopmafokoaoabQdMx
import Derived.Test.YtoaopmafokoaoabQdMz
import Derived.Test.YtoaopmafokoaoabQdGR
import Derived.Test.YtoaopmafokoaoabKeep
import Derived.Test.YtoaopmafokoaoabMulA
import Derived.Test.YtoaopmafokoaoabPrAB
namespace Go.Proofs.Ytoaopmafokoaoab
open Go.RowKit

theorem dotW_wrap (xs ys : List Int) : dotW xs ys = wrap64 (isum (fun i => xs.getD i 0 * ys.getD i 0) xs.length) := by
  unfold dotW
  obtain ⟨t, ht⟩ := isum_mod (fun i => wrap64 (xs.getD i 0 * ys.getD i 0)) (fun i => xs.getD i 0 * ys.getD i 0) xs.length (fun k _ => wrap_ex _)
  rw [wsum_isum, ht, wrap_add]
theorem dot4_wrap (a b c d x y z t : Int) : dotW [a, b, c, d] [x, y, z, t] = wrap64 (a * x + b * y + c * z + d * t) := by
  rw [dotW_wrap]
  show wrap64 (0 + a * x + b * y + c * z + d * t) = _
  rw [Int.zero_add]
theorem wrapD {z : Int} (h : -9223372036854775808 ≤ z ∧ z ≤ 9223372036854775807) : wrap64 z = z := IntWalk.wrap64_in _ (by omega)
theorem withinD {lo hi z : Int} (h : lo ≤ z ∧ z ≤ hi) : within lo hi z = true := by unfold within; simp; omega
def formD : List (List Int) := [[-1, 1, 1, 1], [1, -1, 1, 1], [1, 1, -1, 1], [1, 1, 1, -1]]
theorem formD_mk : mk 4 dfF = formD := by decide
theorem formD_zero {zs : List Int} (h : apB zs = true) : prodAns (mk 4 dfF) zs zs = some 0 := by
  obtain ⟨a, b, c, d, rfl, hq⟩ := apB_four h
  have h1 := hq.ha; have h2 := hq.hb; have h3 := hq.hc; have h4 := hq.hd; have h5 := hq.he
  rw [formD_mk]
  have ea : applyW formD [a, b, c, d] = [-1 * a + 1 * b + 1 * c + 1 * d, 1 * a + -1 * b + 1 * c + 1 * d, 1 * a + 1 * b + -1 * c + 1 * d, 1 * a + 1 * b + 1 * c + -1 * d] := by
    show [dotW [-1, 1, 1, 1] [a, b, c, d], dotW [1, -1, 1, 1] [a, b, c, d], dotW [1, 1, -1, 1] [a, b, c, d], dotW [1, 1, 1, -1] [a, b, c, d]] = _
    rw [dot4_wrap, dot4_wrap, dot4_wrap, dot4_wrap, wrapD (by omega), wrapD (by omega), wrapD (by omega), wrapD (by omega)]
  unfold prodAns
  rw [ea, dot4_wrap, if_pos]
  · rw [show a * (-1 * a + 1 * b + 1 * c + 1 * d) + b * (1 * a + -1 * b + 1 * c + 1 * d) + c * (1 * a + 1 * b + -1 * c + 1 * d) + d * (1 * a + 1 * b + 1 * c + -1 * d) = 0 by grind, wrapD (z := 0) (by omega)]
  · have w1 : vecOK formD.length [a, b, c, d] = true := by
      simp [vecOK, formD, withinD (lo := -1000000) (hi := 1000000) (z := a) (by omega), withinD (lo := -1000000) (hi := 1000000) (z := b) (by omega), withinD (lo := -1000000) (hi := 1000000) (z := c) (by omega), withinD (lo := -1000000) (hi := 1000000) (z := d) (by omega)]
    rw [w1, show formW formD = true by kernel_rfl]
    rfl
theorem sm_rows : mk 4 (smF 0) = [[-1, 2, 2, 2], [0, 1, 0, 0], [0, 0, 1, 0], [0, 0, 0, 1]] ∧ mk 4 (smF 1) = [[1, 0, 0, 0], [2, -1, 2, 2], [0, 0, 1, 0], [0, 0, 0, 1]] ∧
    mk 4 (smF 2) = [[1, 0, 0, 0], [0, 1, 0, 0], [2, 2, -1, 2], [0, 0, 0, 1]] ∧ mk 4 (smF 3) = [[1, 0, 0, 0], [0, 1, 0, 0], [0, 0, 1, 0], [2, 2, 2, -1]] := by decide
theorem sm_applyW (i : Nat) (hi : i < 4) (a b c d : Int) (ha : -100000 ≤ a ∧ a ≤ 100000) (hb : -100000 ≤ b ∧ b ≤ 100000) (hc : -100000 ≤ c ∧ c ≤ 100000) (hd : -100000 ≤ d ∧ d ≤ 100000) :
    applyW (mk 4 (smF i)) [a, b, c, d] = swL [a, b, c, d] i := by
  obtain ⟨r0, r1, r2, r3⟩ := sm_rows
  obtain ⟨e0, e1, e2, e3⟩ := swN4 a b c d
  have h4 : i = 0 ∨ i = 1 ∨ i = 2 ∨ i = 3 := by omega
  rcases h4 with rfl | rfl | rfl | rfl
  · rw [r0]
    simp only [applyW, List.map_cons, List.map_nil, dot4_wrap, swL, e0, List.set_cons_zero]
    rw [wrapD (by omega), wrapD (by omega), wrapD (by omega), wrapD (by omega)]
    simp only [List.cons.injEq, and_true]
    omega
  · rw [r1]
    simp only [applyW, List.map_cons, List.map_nil, dot4_wrap, swL, e1, List.set_cons_zero, List.set_cons_succ]
    rw [wrapD (by omega), wrapD (by omega), wrapD (by omega), wrapD (by omega)]
    simp only [List.cons.injEq, and_true]
    omega
  · rw [r2]
    simp only [applyW, List.map_cons, List.map_nil, dot4_wrap, swL, e2, List.set_cons_zero, List.set_cons_succ]
    rw [wrapD (by omega), wrapD (by omega), wrapD (by omega), wrapD (by omega)]
    simp only [List.cons.injEq, and_true]
    omega
  · rw [r3]
    simp only [applyW, List.map_cons, List.map_nil, dot4_wrap, swL, e3, List.set_cons_zero, List.set_cons_succ]
    rw [wrapD (by omega), wrapD (by omega), wrapD (by omega), wrapD (by omega)]
    simp only [List.cons.injEq, and_true]
    omega
theorem sm_mat (i : Nat) (hi : i < 4) : keepAns (mk 4 (smF i)) (mk 4 dfF) = some true ∧ mulAns (mk 4 (smF i)) (mk 4 (smF i)) = some (unitM 4) ∧ unitAns 4 = some (unitM 4) := by
  have h4 : i = 0 ∨ i = 1 ∨ i = 2 ∨ i = 3 := by omega
  rcases h4 with rfl | rfl | rfl | rfl <;> exact ⟨by kernel_rfl, by kernel_rfl, by kernel_rfl⟩
theorem sm_vec (i : Nat) (hi : i < 4) (zs : List Int) (h : apB zs = true) : matVec (mk 4 (smF i)) zs = true := by
  obtain ⟨a, b, c, d, rfl, hq⟩ := apB_four h
  have h1 := hq.ha; have h2 := hq.hb; have h3 := hq.hc; have h4 := hq.hd
  have w1 : vecOK 4 [a, b, c, d] = true := by
    simp [vecOK, withinD (lo := -1000000) (hi := 1000000) (z := a) (by omega), withinD (lo := -1000000) (hi := 1000000) (z := b) (by omega), withinD (lo := -1000000) (hi := 1000000) (z := c) (by omega), withinD (lo := -1000000) (hi := 1000000) (z := d) (by omega)]
  have hg : goodM 1000000 (mk 4 (smF i)) = true := by
    have := sm_good i hi
    unfold ifGood at this
    split at this
    · assumption
    · cases this
  unfold matVec
  rw [hg, mk_length, w1]
  rfl
/-- the matrix of a swap takes a quad to its swap -/
theorem sm_law {zs S : List Int} {i : Nat} (hi : i < 4) (h : swapAns zs i = some S) : applyAns (mk 4 (smF i)) zs = some S := by
  rcases swap_law zs i with h1 | ⟨S', h1, hg, hg', _⟩
  · rw [h] at h1; cases h1
  · have hv := sm_vec i hi zs hg
    rw [h] at h1
    simp only [Option.some.injEq] at h1
    subst h1
    have hS := h
    unfold swapAns at hS
    split at hS
    · simp only [Option.some.injEq, Int.toNat_natCast] at hS
      obtain ⟨a, b, c, d, rfl, hq⟩ := apB_four hg
      unfold applyAns
      rw [sm_applyW i hi a b c d hq.ha hq.hb hq.hc hq.hd, hS, hv, if_pos]
      obtain ⟨a', b', c', d', rfl, hq'⟩ := apB_four hg'
      have h1 := hq'.ha; have h2 := hq'.hb; have h3 := hq'.hc; have h4 := hq'.hd
      simp [withinD (lo := -1000000) (hi := 1000000) (z := a') (by omega), withinD (lo := -1000000) (hi := 1000000) (z := b') (by omega), withinD (lo := -1000000) (hi := 1000000) (z := c') (by omega), withinD (lo := -1000000) (hi := 1000000) (z := d') (by omega)]
    · cases hS
/-! ### scales -/
theorem dvd_gcdN : ∀ (zs : List Int) (g : Nat), (∀ x ∈ zs, (g : Int) ∣ x) → g ∣ gcdN zs := by
  intro zs
  induction zs with
  | nil => intro g _; exact Nat.dvd_zero _
  | cons y l ih =>
    intro g h
    unfold gcdN
    exact Nat.dvd_gcd (Int.ofNat_dvd_left.1 (h y (by simp))) (ih g fun x hx => h x (by simp [hx]))
theorem gcdN_dvdI (zs : List Int) (x : Int) (h : x ∈ zs) : ((gcdN zs : Nat) : Int) ∣ x := Int.ofNat_dvd_left.2 (gcdN_dvd zs x h)
theorem dvd_sumD {g : Int} : ∀ {zs : List Int}, (∀ x ∈ zs, g ∣ x) → g ∣ zs.sum := by
  intro zs
  induction zs with
  | nil => intro _; exact Int.dvd_zero _
  | cons y l ih =>
    intro h
    rw [List.sum_cons]
    exact Int.dvd_add (h y (by simp)) (ih fun x hx => h x (by simp [hx]))
theorem gcdN_swL (zs : List Int) (i : Nat) (hi : i < zs.length) : gcdN zs ∣ gcdN (swL zs i) := by
  refine dvd_gcdN _ _ fun x hx => ?_
  have hall := gcdN_dvdI zs
  rcases List.mem_or_eq_of_mem_set hx with h1 | h1
  · exact hall x h1
  · subst h1
    have hz : zs.getD i 0 ∈ zs := by rw [getD_at zs i hi]; exact List.getElem_mem _
    have h1 := hall _ hz
    have h2 := dvd_sumD (fun x hx => hall x hx)
    unfold swN
    exact Int.dvd_sub (Int.dvd_mul_of_dvd_right (Int.dvd_sub h2 h1)) h1
theorem gcdL_swL (zs : List Int) (i : Nat) (hi : i < zs.length) : gcdL (swL zs i) = gcdL zs := by
  rw [gcdL_gcdN, gcdL_gcdN]
  have h1 := gcdN_swL zs i hi
  have h2 := gcdN_swL (swL zs i) i (by rw [swL_len]; exact hi)
  rw [swL_back hi] at h2
  rw [Nat.dvd_antisymm h2 h1]
theorem follow_gcd : ∀ (word zs r : List Int), apB zs = true → word.all (within 0 3) = true → followL zs word = some r → apB r = true ∧ gcdL r = gcdL zs := by
  intro word
  induction word with
  | nil => intro zs r h _ hr; simp [followL] at hr; subst hr; exact ⟨h, rfl⟩
  | cons i is ih =>
    intro zs r h hw hr
    rw [List.all_cons, Bool.and_eq_true] at hw
    have hi := within03.1 hw.1
    have hl := apB_hlen h
    unfold followL at hr
    split at hr
    · rename_i hx
      obtain ⟨q1, q2⟩ := ih _ _ (by rw [swL_good h _ (by omega)]; exact decide_eq_true hx) hw.2 hr
      exact ⟨q1, by rw [q2, gcdL_swL _ _ (by omega)]⟩
    · cases hr
/-- a quad's scale is its divisor -/
theorem scale_div {zs : List Int} (h : apB zs = true) : scaleAns zs = some (gcdL zs) ∧ divAns zs = some (gcdL zs) := by
  refine ⟨by unfold scaleAns; rw [if_pos h], ?_⟩
  unfold divAns
  obtain ⟨a, b, c, d, rfl, hq⟩ := apB_four h
  have h1 := hq.ha; have h2 := hq.hb; have h3 := hq.hc; have h4 := hq.hd
  rw [if_pos]
  refine ⟨by simp, ?_⟩
  simp [divOK, withinD (lo := -1000000000) (hi := 1000000000) (z := a) (by omega), withinD (lo := -1000000000) (hi := 1000000000) (z := b) (by omega), withinD (lo := -1000000000) (hi := 1000000000) (z := c) (by omega), withinD (lo := -1000000000) (hi := 1000000000) (z := d) (by omega)]
theorem follow_scale {zs word r : List Int} (h : followAns zs word = some r) : scaleAns zs = some (gcdL zs) ∧ scaleAns r = some (gcdL zs) := by
  unfold followAns at h
  split at h
  · rename_i hc
    obtain ⟨q1, q2⟩ := follow_gcd _ _ _ hc.1 hc.2.2 h
    exact ⟨(scale_div hc.1).1, by rw [(scale_div q1).1, q2]⟩
  · cases h
end Go.Proofs.Ytoaopmafokoaoab
