/- MkS, MkT, MkG, MkR: in one text. -/
import Derived.Test.YtofmmegpadojlaaMk
import Derived.Test.YtofmmegpadojlaaBasB
import Derived.Deep.RegionHeld3
import Derived.BigQuiet
namespace Go.Proofs.Ytofmmegpadojlaa
open Go.RowKit


theorem cnt_iff (z : Int) : within 1 1000000000 z = true ↔ 1 ≤ z ∧ z ≤ 1000000000 := by simp [within]
theorem mul_le18 {x y : Int} (hx : 1 ≤ x) (hx2 : x ≤ 1000000000) (hy : 1 ≤ y) (hy2 : y ≤ 1000000000) : 1 ≤ x * y ∧ x * y ≤ 1000000000000000000 := by
  have h1 : x * y ≤ 1000000000 * y := Int.mul_le_mul_of_nonneg_right hx2 (by omega)
  have h2 : 1 * y ≤ x * y := Int.mul_le_mul_of_nonneg_right hx (by omega)
  omega

theorem Ints.three {w : World} {v : Value} {zs : List Int} (h : Ints w v zs) (h3 : zs.length = 3) :
    ∃ x y z ad cap, zs = [x, y, z] ∧ v = .slice (some ad) 3 cap ∧ w.cell? ad = some (.int .i64 x) ∧ w.cell? ⟨ad.block, ad.off + 1, none⟩ = some (.int .i64 y) ∧ w.cell? ⟨ad.block, ad.off + 2, none⟩ = some (.int .i64 z) := by
  obtain ⟨a, cap, rfl, hl, hc⟩ := h
  match zs, h3 with
  | [x, y, z], _ =>
    obtain ⟨ad, rfl, h0⟩ := hc 0 (by simp)
    obtain ⟨ad', e1, h1⟩ := hc 1 (by simp)
    obtain ⟨ad'', e2, h2⟩ := hc 2 (by simp)
    obtain rfl : ad = ad' := by simpa using e1
    obtain rfl : ad = ad'' := by simpa using e2
    exact ⟨x, y, z, ad, cap, rfl, rfl, by simpa [Addr.add] using h0, by simpa [Addr.add] using h1, by simpa [Addr.add] using h2⟩

/-- A row of three numbers laid at once. -/
theorem ownsThree (w : World) (x y z : Int) : OwnInts w.heap.size (w.heap.size + 1) (w.alloc (.cells #[.int .i64 x, .int .i64 y, .int .i64 z] 3)) (.slice (some ⟨w.heap.size, 0, none⟩) 3 3) [x, y, z] := by
  have h := World.ownsRow_lit (e := 3) (size := 1) w #[.int .i64 x, .int .i64 y, .int .i64 z] 3 (Nat.le_refl _) (by unfold maxLen; omega) (by simp)
  refine ⟨by simpa using h, fun b hb => by simp [Value.ownBlock] at hb; omega⟩
theorem OwnInts.three {lo hi : Nat} {w : World} {v : Value} {x y z : Int} (h : OwnInts lo hi w v [x, y, z]) :
    ∃ g cap, v = .slice (some ⟨g, 0, none⟩) 3 cap ∧ w.cell? ⟨g, 0, none⟩ = some (.int .i64 x) ∧ w.cell? ⟨g, 1, none⟩ = some (.int .i64 y) ∧ w.cell? ⟨g, 2, none⟩ = some (.int .i64 z) ∧ lo ≤ g ∧ g < hi := by
  obtain ⟨a, cap, rfl, _, hm, _, hc⟩ := ownsRow_shape h.1
  obtain ⟨g, rfl, h0⟩ := hc 0 (by simp)
  obtain ⟨g', e1, h1⟩ := hc 1 (by simp)
  obtain ⟨g'', e2, h2⟩ := hc 2 (by simp)
  obtain rfl : g = g' := by simpa using e1
  obtain rfl : g = g'' := by simpa using e2
  exact ⟨g, cap, rfl, by simpa using h0, by simpa using h1, by simpa using h2, (h.1.lt g rfl).1, h.2 g rfl⟩

def areCnt (zs : List Int) : Bool := zs.all (within 1 1000000000)
def solvesAns (zs : List Int) : Option Bool := if zs.length = 3 ∧ areCnt zs = true then some (solves3 (zs.getD 0 0) (zs.getD 1 0) (zs.getD 2 0)) else none
theorem areCnt3 {x y z : Int} (h : areCnt [x, y, z] = true) : (1 ≤ x ∧ x ≤ 1000000000) ∧ (1 ≤ y ∧ y ≤ 1000000000) ∧ (1 ≤ z ∧ z ≤ 1000000000) := by
  simp [areCnt, within] at h; omega

theorem any_take_succ {α : Type} (p : α → Bool) (zs : List α) (k : Nat) (h : k < zs.length) (ha : (zs.take k).any p = false) (hp : p zs[k] = false) : (zs.take (k + 1)).any p = false := by
  rw [List.take_succ_eq_append_getElem h, List.any_append, ha]; simp [hp]
theorem any_true_at {α : Type} (p : α → Bool) (zs : List α) (k : Nat) (h : k < zs.length) (hp : p zs[k] = true) : zs.any p = true := by
  rw [List.any_eq_true]; exact ⟨zs[k], List.getElem_mem h, hp⟩

def mkGoodW (zs : List Int) : Bool := decide (zs.length = 3) && areCnt zs && decide (zs.getD 0 0 ≤ zs.getD 1 0) && decide (zs.getD 1 0 ≤ zs.getD 2 0) && solves3 (zs.getD 0 0) (zs.getD 1 0) (zs.getD 2 0)
theorem mkGoodW3 (x y z : Int) : mkGoodW [x, y, z] = (areCnt [x, y, z] && decide (x ≤ y) && decide (y ≤ z) && solves3 x y z) := by simp [mkGoodW]
/-- A list that is a triple. -/
theorem mkGoodW_three {zs : List Int} (h : mkGoodW zs = true) : ∃ x y z, zs = [x, y, z] ∧ (1 ≤ x ∧ x ≤ 1000000000) ∧ (1 ≤ y ∧ y ≤ 1000000000) ∧ (1 ≤ z ∧ z ≤ 1000000000) ∧ x ≤ y ∧ y ≤ z ∧ x * x + y * y + z * z = 3 * x * y * z := by
  have h3 : zs.length = 3 := by simp only [mkGoodW, Bool.and_eq_true, decide_eq_true_eq] at h; exact h.1.1.1.1
  match zs, h3 with
  | [x, y, z], _ =>
    rw [mkGoodW3] at h
    simp only [Bool.and_eq_true, decide_eq_true_eq, solves3] at h
    have := areCnt3 h.1.1.1
    exact ⟨x, y, z, rfl, this.1, this.2.1, this.2.2, h.1.1.2, h.1.2, h.2⟩

def Quiet (w w' : World) : Prop := ∃ n, w' = w.drewN n
theorem Quiet.later {w w' : World} (h : Quiet w w') : Later w w' := by obtain ⟨n, rfl⟩ := h; exact Later.drewN _ _
theorem Quiet.refl (w : World) : Quiet w w := ⟨0, rfl⟩

/-! ### slices.IsSorted at three numbers -/

def invF : Nat → Int → Int → Int → Int → Int
  | 0, _, _, u, _ => u
  | k + 1, a, b, u, v => if b = 0 then u else invF k b (a - a / b * b) v (wrap64 (u - wrap64 (a / b * v)))
def invG (a b u v : Int) : Int := invF (b.toNat + 1) a b u v
theorem sub_quo (a b : Int) (_hb : 0 < b) : a - a / b * b = a % b := by
  have := Int.mul_ediv_add_emod a b
  have h2 : a / b * b = b * (a / b) := Int.mul_comm _ _
  omega
theorem invF_more (k : Nat) : ∀ (j : Nat) (a b u v : Int), 0 ≤ b → b.toNat < k → b.toNat < j → invF k a b u v = invF j a b u v := by
  induction k with
  | zero => intro j a b u v _ h; omega
  | succ k ih =>
    intro j a b u v h0 h1 h2
    cases j with
    | zero => omega
    | succ j =>
      unfold invF
      split
      · rfl
      · rename_i hb
        rw [sub_quo a b (by omega)]
        have p1 := Int.emod_nonneg a hb
        have p2 := Int.emod_lt_of_pos a (show 0 < b by omega)
        exact ih j b _ _ _ p1 (by omega) (by omega)
theorem invG_zero (a u v : Int) : invG a 0 u v = u := by simp [invG, invF]
theorem invG_step (a b u v : Int) (hb : 0 < b) : invG a b u v = invG b (a - a / b * b) v (wrap64 (u - wrap64 (a / b * v))) := by
  have h := sub_quo a b hb
  have p1 := Int.emod_nonneg a (show b ≠ 0 by omega)
  have p2 := Int.emod_lt_of_pos a hb
  unfold invG
  rw [show invF (b.toNat + 1) a b u v = invF b.toNat b (a - a / b * b) v (wrap64 (u - wrap64 (a / b * v))) by rw [invF, if_neg (by omega)], h]
  exact invF_more _ _ _ _ _ _ p1 (by omega) (by omega)
def remT (u m : Int) : Int := (u.tmod m + m).tmod m
theorem tmod_in (u m : Int) (hm : 1 ≤ m) : -m < u.tmod m ∧ u.tmod m < m := by
  have h := Int.natAbs_tmod u m
  have h2 : u.natAbs % m.natAbs < m.natAbs := Nat.mod_lt _ (by omega)
  omega
theorem remT_in (u m : Int) (hm : 1 ≤ m) : 0 ≤ remT u m ∧ remT u m < m := by
  have h := tmod_in u m hm
  unfold remT
  rw [Int.tmod_eq_emod_of_nonneg (by omega)]
  exact ⟨Int.emod_nonneg _ (by omega), Int.emod_lt_of_pos _ (by omega)⟩
theorem remT_one (u : Int) : remT u 1 = 0 := by
  have := remT_in u 1 (by omega); omega

set_option maxHeartbeats 400000 in
theorem remainder_any (u m : Int) (w : World) (hm : 1 ≤ m ∧ m ≤ 1000000000) :
    Calls Try.prog 111 #[.int .i64 u, .int .i64 m] w fun e w' => e = .returned (.int .i64 (remT u m)) ∧ w = w' := by
  have h1 := tmod_in u m hm.1
  have HR := hid (show remT u m = (u.tmod m + m).tmod m from rfl)
  obtain ⟨r, hr⟩ : ∃ r, u.tmod m = r := ⟨_, rfl⟩
  rw [hr] at h1 HR
  have w1 : IntKind.i64.wrap (r + m) = r + m := by rw [IntWalk.i64_left]; exact IntWalk.wrap64_in _ (by omega)
  have z0 : ¬ m = 0 := by omega
  obtain ⟨s, hs⟩ : ∃ s, (r + m).tmod m = s := ⟨_, rfl⟩
  rw [hs] at HR
  go_enter Try.func111, Try.ntmps111
  go_wp2_with fail
  go_ret
  exact ⟨ret_int HR.out.symm, rfl⟩

def minusAns (zs : List Int) : Option Int := if mkGoodW zs = true then some (remT (invG (zs.getD 2 0) (zs.getD 0 0 % zs.getD 2 0) 0 1) (zs.getD 2 0) * (zs.getD 1 0 % zs.getD 2 0) % zs.getD 2 0) else none
theorem minus_same (x y z : Int) (hx : 1 ≤ x) (hxy : x ≤ y) (hyz : y ≤ z) (he : x * x + y * y + z * z = 3 * x * y * z) :
    (y * remT (invG z x 0 1) z) % z = (remT (invG z (x % z) 0 1) z * (y % z)) % z := by
  by_cases hz : x < z
  · rw [Int.emod_eq_of_lt (by omega) hz, Int.mul_comm y, Int.mul_emod, Int.mul_emod (remT _ _) (y % z), Int.emod_emod]
  · obtain rfl : x = z := by omega
    obtain rfl : y = x := by omega
    have h1 : y * y * (y - 1) = 0 := by grind
    have h2 : y = 1 := by
      rcases Int.mul_eq_zero.1 h1 with h | h
      · rcases Int.mul_eq_zero.1 h with h | h <;> omega
      · omega
    subst h2
    rw [Int.emod_one, Int.emod_one]

end Go.Proofs.Ytofmmegpadojlaa
