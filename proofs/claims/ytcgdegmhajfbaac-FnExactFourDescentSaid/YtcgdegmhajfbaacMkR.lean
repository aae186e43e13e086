/- Contracts of MinusOneRoot. -/
import Derived.Test.YtcgdegmhajfbaacMkG
namespace Go.Proofs.Ytcgdegmhajfbaac
open Go.RowKit

def invF : Nat → Int → Int → Int → Int → Int
  | 0, _, _, u, _ => u
  | k + 1, a, b, u, v => if b = 0 then u else invF k b (a - a / b * b) v (wrap64 (u - wrap64 (a / b * v)))
def invG (a b u v : Int) : Int := invF (b.toNat + 1) a b u v
theorem sub_quo (a b : Int) (_hb : 0 < b) : a - a / b * b = a % b := by
  have := Int.mul_ediv_add_emod a b
  have h2 : a / b * b = b * (a / b) := Int.mul_comm _ _
  omega
theorem invF_more (k : Nat) : ∀ (j : Nat) (a b u v : Int), 0 ≤ b → b.toNat < k → b.toNat < j → invF k a b u v = invF j a b u v := by
  induction k with
  | zero => intro j a b u v _ h; omega
  | succ k ih =>
    intro j a b u v h0 h1 h2
    cases j with
    | zero => omega
    | succ j =>
      unfold invF
      split
      · rfl
      · rename_i hb
        rw [sub_quo a b (by omega)]
        have p1 := Int.emod_nonneg a hb
        have p2 := Int.emod_lt_of_pos a (show 0 < b by omega)
        exact ih j b _ _ _ p1 (by omega) (by omega)
theorem invG_zero (a u v : Int) : invG a 0 u v = u := by simp [invG, invF]
theorem invG_step (a b u v : Int) (hb : 0 < b) : invG a b u v = invG b (a - a / b * b) v (wrap64 (u - wrap64 (a / b * v))) := by
  have h := sub_quo a b hb
  have p1 := Int.emod_nonneg a (show b ≠ 0 by omega)
  have p2 := Int.emod_lt_of_pos a hb
  unfold invG
  rw [show invF (b.toNat + 1) a b u v = invF b.toNat b (a - a / b * b) v (wrap64 (u - wrap64 (a / b * v))) by rw [invF, if_neg (by omega)], h]
  exact invF_more _ _ _ _ _ _ p1 (by omega) (by omega)
def remT (u m : Int) : Int := (u.tmod m + m).tmod m
theorem tmod_in (u m : Int) (hm : 1 ≤ m) : -m < u.tmod m ∧ u.tmod m < m := by
  have h := Int.natAbs_tmod u m
  have h2 : u.natAbs % m.natAbs < m.natAbs := Nat.mod_lt _ (by omega)
  omega
theorem remT_in (u m : Int) (hm : 1 ≤ m) : 0 ≤ remT u m ∧ remT u m < m := by
  have h := tmod_in u m hm
  unfold remT
  rw [Int.tmod_eq_emod_of_nonneg (by omega)]
  exact ⟨Int.emod_nonneg _ (by omega), Int.emod_lt_of_pos _ (by omega)⟩
theorem remT_one (u : Int) : remT u 1 = 0 := by
  have := remT_in u 1 (by omega); omega

set_option maxHeartbeats 400000 in
theorem remainder_any (u m : Int) (w : World) (hm : 1 ≤ m ∧ m ≤ 1000000000) :
    Calls Try.prog 60 #[.int .i64 u, .int .i64 m] w fun e w' => e = .returned (.int .i64 (remT u m)) ∧ w = w' := by
  have h1 := tmod_in u m hm.1
  have HR := hid (show remT u m = (u.tmod m + m).tmod m from rfl)
  obtain ⟨r, hr⟩ : ∃ r, u.tmod m = r := ⟨_, rfl⟩
  rw [hr] at h1 HR
  have w1 : IntKind.i64.wrap (r + m) = r + m := by rw [IntWalk.i64_left]; exact IntWalk.wrap64_in _ (by omega)
  have z0 : ¬ m = 0 := by omega
  obtain ⟨s, hs⟩ : ∃ s, (r + m).tmod m = s := ⟨_, rfl⟩
  rw [hs] at HR
  go_enter Try.func60, Try.ntmps60
  go_wp2_with fail
  go_ret
  exact ⟨ret_int HR.out.symm, rfl⟩

def minusAns (zs : List Int) : Option Int := if mkGoodW zs = true then some (remT (invG (zs.getD 2 0) (zs.getD 0 0 % zs.getD 2 0) 0 1) (zs.getD 2 0) * (zs.getD 1 0 % zs.getD 2 0) % zs.getD 2 0) else none
theorem minus_same (x y z : Int) (hx : 1 ≤ x) (hxy : x ≤ y) (hyz : y ≤ z) (he : x * x + y * y + z * z = 3 * x * y * z) :
    (y * remT (invG z x 0 1) z) % z = (remT (invG z (x % z) 0 1) z * (y % z)) % z := by
  by_cases hz : x < z
  · rw [Int.emod_eq_of_lt (by omega) hz, Int.mul_comm y, Int.mul_emod, Int.mul_emod (remT _ _) (y % z), Int.emod_emod]
  · obtain rfl : x = z := by omega
    obtain rfl : y = x := by omega
    have h1 : y * y * (y - 1) = 0 := by grind
    have h2 : y = 1 := by
      rcases Int.mul_eq_zero.1 h1 with h | h
      · rcases Int.mul_eq_zero.1 h with h | h <;> omega
      · omega
    subst h2
    rw [Int.emod_one, Int.emod_one]

end Go.Proofs.Ytcgdegmhajfbaac
