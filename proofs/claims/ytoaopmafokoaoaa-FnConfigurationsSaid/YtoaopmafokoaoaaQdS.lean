/- Four curvatures: the model's test of a quad, its sum, a swap, the index of the swap down. -/
import Derived.Test.YtoaopmafokoaoaaQd
import Derived.Test.YtoaopmafokoaoaaBasB
import Derived.Test.YtoaopmafokoaoaaRowsKI
import Derived.Deep.RegionHeld3
namespace Go.Proofs.Ytoaopmafokoaoaa
open Go.RowKit

theorem Ints.four {w : World} {v : Value} {a b c d : Int} (h : Ints w v [a, b, c, d]) :
    ∃ ad cap, v = .slice (some ad) 4 cap ∧ w.cell? ad = some (.int .i64 a) ∧ w.cell? ⟨ad.block, ad.off + 1, none⟩ = some (.int .i64 b) ∧ w.cell? ⟨ad.block, ad.off + 2, none⟩ = some (.int .i64 c) ∧ w.cell? ⟨ad.block, ad.off + 3, none⟩ = some (.int .i64 d) := by
  obtain ⟨p, cap, rfl, hl, hc⟩ := h
  obtain ⟨ad, rfl, h0⟩ := hc 0 (by simp)
  obtain ⟨ad1, e1, h1⟩ := hc 1 (by simp)
  obtain ⟨ad2, e2, h2⟩ := hc 2 (by simp)
  obtain ⟨ad3, e3, h3⟩ := hc 3 (by simp)
  obtain rfl : ad = ad1 := by simpa using e1
  obtain rfl : ad = ad2 := by simpa using e2
  obtain rfl : ad = ad3 := by simpa using e3
  exact ⟨ad, cap, rfl, by simpa [Addr.add] using h0, by simpa [Addr.add] using h1, by simpa [Addr.add] using h2, by simpa [Addr.add] using h3⟩
theorem sumQ_bd (zs : List Int) (h : ∀ z ∈ zs, -100000 ≤ z ∧ z ≤ 100000) : -(100000 * (zs.length : Int)) ≤ zs.sum ∧ zs.sum ≤ 100000 * (zs.length : Int) := by
  induction zs with
  | nil => simp
  | cons z zs ih =>
    have h1 := h z (by simp)
    have h2 := ih fun x hx => h x (by simp [hx])
    simp only [List.sum_cons, List.length_cons]
    omega
theorem sqQ_bd {z : Int} (h : -100000 ≤ z ∧ z ≤ 100000) : 0 ≤ z * z ∧ z * z ≤ 10000000000 := by
  have h0 := sq_nn z
  rcases Int.le_total 0 z with hz | hz
  · have := Int.mul_le_mul h.2 h.2 hz (by omega); omega
  · have := Int.mul_le_mul (show -z ≤ 100000 by omega) (show -z ≤ 100000 by omega) (by omega) (by omega)
    rw [Int.neg_mul_neg] at this; omega
theorem qsq_bd (zs : List Int) (h : ∀ z ∈ zs, -100000 ≤ z ∧ z ≤ 100000) : 0 ≤ qsq zs ∧ qsq zs ≤ 10000000000 * (zs.length : Int) := by
  induction zs with
  | nil => simp [qsq]
  | cons z zs ih =>
    have h1 := sqQ_bd (h z (by simp))
    have h2 := ih fun x hx => h x (by simp [hx])
    have e : qsq (z :: zs) = z * z + qsq zs := by simp [qsq]
    rw [e]
    simp only [List.length_cons]
    omega
theorem sum_snocQ (zs : List Int) (k : Nat) (hk : k < zs.length) : (zs.take (k + 1)).sum = (zs.take k).sum + zs[k] := by rw [take_snoc zs k hk, List.sum_append]; simp
theorem qsq_snocQ (zs : List Int) (k : Nat) (hk : k < zs.length) : qsq (zs.take (k + 1)) = qsq (zs.take k) + zs[k] * zs[k] := by rw [take_snoc zs k hk]; unfold qsq; rw [List.map_append, List.sum_append]; simp
theorem withinQ {zs : List Int} (h : zs.all (within (-100000) 100000) = true) : ∀ z ∈ zs, -100000 ≤ z ∧ z ≤ 100000 := by
  intro z hz
  have := List.all_eq_true.1 h z hz
  simpa [within] using this

/-- Four numbers of a size that sums bear. -/
structure Md (a b c d : Int) : Prop where
  a1 : -10000000 ≤ a
  a2 : a ≤ 10000000
  b1 : -10000000 ≤ b
  b2 : b ≤ 10000000
  c1 : -10000000 ≤ c
  c2 : c ≤ 10000000
  d1 : -10000000 ≤ d
  d2 : d ≤ 10000000
end Go.Proofs.Ytoaopmafokoaoaa
