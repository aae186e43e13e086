/- QdG, RdA: in one text. -/
import Derived.Test.YtoaopmafokoaoaaQd
import Derived.Test.YtoaopmafokoaoaaRoot
namespace Go.Proofs.Ytoaopmafokoaoaa
open Go.RowKit


theorem gcdF_gcd (k : Nat) : ∀ a b : Int, b.natAbs < k → gcdF k a b = (Nat.gcd a.natAbs b.natAbs : Nat) := by
  induction k with
  | zero => intro a b h; omega
  | succ k ih =>
    intro a b h
    unfold gcdF
    split
    · rename_i hb
      subst hb
      simp only [Int.natAbs_zero, Nat.gcd_zero_right]
      unfold maxI; split <;> omega
    · rename_i hb
      have h1 := tmod_lt a b hb
      rw [ih b _ (by omega), Int.natAbs_tmod, Nat.gcd_comm, Nat.gcd_comm a.natAbs, ← Nat.gcd_rec]
theorem gcdW_gcd (a b : Int) : gcdW a b = (Nat.gcd a.natAbs b.natAbs : Nat) := gcdF_gcd _ a b (by omega)
theorem scale_eq (a b c d : Int) : gcdW (gcdW a b) (gcdW c d) = gcdL [a, b, c, d] := by
  simp only [gcdL, List.foldl_cons, List.foldl_nil]
  simp only [gcdW_gcd, Int.natAbs_natCast, Int.natAbs_zero, Nat.gcd_zero_left]
  simp only [Nat.gcd_assoc]
def scaleAns (zs : List Int) : Option Int := if apB zs = true then some (gcdL zs) else none


def gcdN : List Int → Nat
  | [] => 0
  | x :: l => Nat.gcd x.natAbs (gcdN l)
theorem foldl_gcd : ∀ (l : List Int) (n : Nat), l.foldl gcdW (n : Int) = (Nat.gcd n (gcdN l) : Nat) := by
  intro l
  induction l with
  | nil => intro n; simp [gcdN]
  | cons x l ih =>
    intro n
    rw [List.foldl_cons, gcdW_gcd, ih, gcdN, Int.natAbs_natCast, Nat.gcd_assoc]
theorem gcdL_gcdN (zs : List Int) : gcdL zs = (gcdN zs : Nat) := by
  have h := foldl_gcd zs 0
  rw [Nat.gcd_zero_left] at h
  exact h
theorem gcdN_dvd : ∀ (zs : List Int) (x : Int), x ∈ zs → gcdN zs ∣ x.natAbs := by
  intro zs
  induction zs with
  | nil => intro x hx; cases hx
  | cons y l ih =>
    intro x hx
    unfold gcdN
    rcases List.mem_cons.1 hx with rfl | hx
    · exact Nat.gcd_dvd_left _ _
    · exact Nat.dvd_trans (Nat.gcd_dvd_right _ _) (ih x hx)
theorem gcdL_nonneg (zs : List Int) : 0 ≤ gcdL zs := by rw [gcdL_gcdN]; omega
/-- the divisor divides each number -/
theorem gcdL_tmod {zs : List Int} {x : Int} (h : x ∈ zs) (_hd : 0 < gcdL zs) : x.tmod (gcdL zs) = 0 := by
  refine Int.tmod_eq_zero_of_dvd ?_
  rw [gcdL_gcdN]
  have := gcdN_dvd zs x h
  exact Int.dvd_natAbs.1 (Int.natCast_dvd_natCast.2 this)
theorem gcdL_zero {zs : List Int} {x : Int} (h : x ∈ zs) (hd : gcdL zs = 0) : x = 0 := by
  rw [gcdL_gcdN] at hd
  have := gcdN_dvd zs x h
  have h0 : gcdN zs = 0 := by omega
  rw [h0] at this
  have := Nat.zero_dvd.1 this
  omega
theorem gcdL_cons (x : Int) (l : List Int) : gcdL [x, gcdL l] = gcdL (x :: l) := by
  rw [gcdL_gcdN, gcdL_gcdN, gcdL_gcdN]
  simp only [gcdN, Int.natAbs_natCast, Nat.gcd_zero_right]
/-- what DivisorOf answers for the rest of a list, and for the first number with that -/
theorem div_parts {x : Int} {l : List Int} {d : Int} (h : divAns (x :: l) = some d) : d = gcdL (x :: l) ∧ divAns l = some (gcdL l) ∧ divAns [x, gcdL l] = some d := by
  unfold divAns at h
  split at h
  · rename_i hh
    injection h with h
    obtain ⟨hl, hok⟩ := hh
    unfold divOK at hok
    rw [List.all_cons, Bool.and_eq_true] at hok
    have hl2 : l.length ≤ 40 := by rw [List.length_cons] at hl; omega
    have hm := gcdL_mid (zs := l) hok.2 l.length (Nat.le_refl _)
    rw [List.take_length] at hm
    refine ⟨h.symm, ?_, ?_⟩
    · unfold divAns; rw [if_pos ⟨hl2, hok.2⟩]
    · unfold divAns
      rw [if_pos, gcdL_cons, h]
      refine ⟨by simp, ?_⟩
      unfold divOK
      rw [List.all_cons, List.all_cons, hok.1]
      simp only [within, Bool.true_and, List.all_nil, Bool.and_true, Bool.and_eq_true, decide_eq_true_eq]
      exact hm
  · cases h
theorem div_some {zs : List Int} {d : Int} (h : divAns zs = some d) : d = gcdL zs ∧ zs.length ≤ 40 := by
  unfold divAns at h
  split at h
  · rename_i hh; injection h with h; exact ⟨h.symm, hh.1⟩
  · cases h
/-- a root's square is not too great, that of the next number is -/
theorem root_law {n r : Int} (h : rootAns n = some r) : 0 ≤ r ∧ r ≤ 1000000000 ∧ r * r ≤ n ∧ n < (r + 1) * (r + 1) ∧ n ≤ 1000000000000000000 := by
  unfold rootAns at h
  split at h
  · rename_i hh
    injection h with h
    obtain ⟨k, rfl⟩ : ∃ k : Nat, n = (k : Int) := ⟨n.toNat, by omega⟩
    rw [Int.toNat_natCast] at h
    obtain ⟨g1, g2⟩ := rootN_spec k
    subst h
    have hb : rootN k ≤ 1000000000 := by
      refine Nat.not_lt.1 fun hlt => ?_
      have := Nat.mul_le_mul (show 1000000001 ≤ rootN k by omega) (show 1000000001 ≤ rootN k by omega)
      omega
    have e1 : ((rootN k : Nat) : Int) * ((rootN k : Nat) : Int) = ((rootN k * rootN k : Nat) : Int) := by rw [Int.natCast_mul]
    have e2 : (((rootN k : Nat) : Int) + 1) * (((rootN k : Nat) : Int) + 1) = (((rootN k + 1) * (rootN k + 1) : Nat) : Int) := by rw [Int.natCast_mul]; rfl
    refine ⟨by omega, by omega, by rw [e1]; omega, by rw [e2]; omega, hh.2⟩
  · cases h
end Go.Proofs.Ytoaopmafokoaoaa
