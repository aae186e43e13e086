/- What the laws on descents of four squares look at: sums of squares of a list, answers as they read. -/
import Derived.Test.YtofmmegpadojlaaCuST
import Derived.Test.YtofmmegpadojlaaSqCH
import Derived.Test.YtofmmegpadojlaaSqDc
import Derived.Test.YtofmmegpadojlaaCuAB
namespace Go.Proofs.Ytofmmegpadojlaa
open Go.RowKit

set_option maxHeartbeats 1000000 in
theorem vSquares_any (v : Value) (zs : List Int) (w : World) (hl : zs.length = 4) (hz : ∀ z ∈ zs, -500000000 ≤ z ∧ z ≤ 500000000) (h : Ints w v zs) :
    Calls Try.prog 28 #[v] w fun e w' => e = .returned (.int .i64 (sqTo zs 4)) ∧ w = w' := by
  obtain ⟨a, cap, rfl, _, hc⟩ := h
  rw [hl]
  have HC := hid hc
  have HZ := hid hz
  have HZL := hid hl
  clear hc hz hl
  go_enter Try.func28, Try.ntmps28
  go_wp2_with fail
  go_loop [3, 8] (fun s i => ∃ k : Nat, k ≤ 4 ∧ i = .int .i64 k ∧ s = .int .i64 (sqTo zs k) ∧ 0 ≤ sqTo zs k ∧ sqTo zs k ≤ k * 250000000000000000) (fun _ i => 4 - (intOf i).toNat)
  case atStart => exact ⟨0, Nat.zero_le _, rfl, rfl, Int.le_refl _, Int.le_refl _⟩
  case round =>
    obtain ⟨k, hk, rfl, rfl, hs0, hs1⟩ := hrel
    by_cases hlt : (k : Int) < 4
    · obtain ⟨ad, rfl, hcell⟩ := HC.out k (by rw [HZL.out]; omega)
      obtain ⟨z, hz⟩ : ∃ z, zs[k]? = some z := ⟨zs[k]'(by rw [HZL.out]; omega), by simp⟩
      have hg : zs.getD k 0 = z := by rw [List.getD_eq_getElem?_getD, hz]; rfl
      rw [hg] at hcell
      have hzb := HZ.out z (List.mem_of_getElem? hz)
      have hzz := mulBdC (x := z) (y := z) hzb hzb
      have hzp := Sq.sq0 z
      have HS := hid (sqTo_step hz)
      obtain ⟨s, hs⟩ : ∃ s, sqTo zs k = s := ⟨_, rfl⟩
      rw [hs] at HS hs0 hs1 ⊢
      clear hz hg hs hzb
      go_wp2_with fail
      go_round
      case rel => exact ⟨k + 1, by omega, by go_num, by rw [HS.out], by rw [HS.out]; omega, by rw [HS.out]; omega⟩
      case measure => simp [intOf]; omega
    · have hke : k = 4 := by omega
      subst hke
      go_wp2_with fail
      go_ret
      exact ⟨rfl, rfl⟩
/-- rows as a law reads them: with the capacities of the rows -/
def R9 (w : World) (a : Option Addr) (c : Nat) (L : List (List Int)) : Prop :=
  Rows2 w (.slice a L.length c) L ∧ ∀ i, i < L.length → ∃ ad a2 c2, a = some ad ∧ w.cell? (ad.add i) = some (.slice a2 (L.getD i []).length c2) ∧ (L.getD i []).length ≤ c2 ∧ Ints w (.slice a2 (L.getD i []).length c2) (L.getD i [])
theorem R9.later {w w' : World} {a : Option Addr} {c : Nat} {L : List (List Int)} (h : R9 w a c L) (k : Later w w') : R9 w' a c L := by
  refine ⟨h.1.later k, fun i hi => ?_⟩
  obtain ⟨ad, a2, c2, e, h1, h2, h3⟩ := h.2 i hi
  exact ⟨ad, a2, c2, e, k.cell h1, h2, h3.later k⟩
/-- what a function that answers rows leaves, as a law reads it -/
theorem rows_as9 {w0 : World} {fn : FuncId} {args : Array Value} {o : Option (List (List Int))} {L : List (List Int)} {t : Bool} (h : Calls Try.prog fn args w0 fun e w' => RowsAns w0 o e w') (hL : o.getD [] = L) (ht : o.isSome = t) :
    Calls Try.prog fn args w0 fun e w' => ∃ a c, e = .returned (.tuple #[.slice a L.length c, .bool t]) ∧ R9 w' a c L ∧ Later w0 w' :=
  h.mono fun e w' ⟨v, he, ho, hl⟩ => by
    rw [hL] at ho
    obtain ⟨a, c, rfl, _⟩ := ho.shape
    refine ⟨a, c, by rw [he, ht], ⟨ho.rows, fun i hi => ?_⟩, hl⟩
    obtain ⟨g, cap', u, hv', hcu, hu, _⟩ := ho.row hi
    simp only [Value.slice.injEq] at hv'
    obtain ⟨a2, c2, rfl, hle⟩ := hu.shape
    exact ⟨_, a2, c2, hv'.1, hcu, hle, hu.ints⟩
theorem ints_as9 {w0 : World} {fn : FuncId} {args : Array Value} {o : Option (List Int)} {z : List Int} {t : Bool} (h : Calls Try.prog fn args w0 fun e w' => IntsAns w0 o e w') (hL : o.getD [] = z) (ht : o.isSome = t) :
    Calls Try.prog fn args w0 fun e w' => ∃ v, e = .returned (.tuple #[v, .bool t]) ∧ Ints w' v z ∧ Later w0 w' :=
  h.mono fun e w' ⟨v, he, ho, hl⟩ => by
    rw [hL] at ho
    exact ⟨v, by rw [he, ht], ho.ints, hl⟩
/-- products of sums of four squares -/
theorem sq_mul4 {z1 z2 : List Int} (h1 : partsB 4 z1 = true) (h2 : partsB 4 z2 = true) : (∀ z ∈ z1, -10000 ≤ z ∧ z ≤ 10000) ∧ (∀ z ∈ z2, -10000 ≤ z ∧ z ≤ 10000) ∧ z1.length = 4 ∧ z2.length = 4 ∧ (mul4L z1 z2).length = 4 ∧ (∀ z ∈ mul4L z1 z2, -500000000 ≤ z ∧ z ≤ 500000000) ∧ sqTo (mul4L z1 z2) 4 = sqTo z1 4 * sqTo z2 4 := by
  obtain ⟨a, b, c, d, rfl, ha, hb, hc, hd⟩ := partsB_4 h1
  obtain ⟨x, y, z, t, rfl, hx, hy, hz, ht⟩ := partsB_4 h2
  have hm := Sq.mul4_sum ⟨a, b, c, d⟩ ⟨x, y, z, t⟩
  have bd : ∀ {x y : Int}, In4 x → In4 y → -(10000 * 10000) ≤ x * y ∧ x * y ≤ 10000 * 10000 := fun hx hy => mulBdC hx hy
  refine ⟨?_, ?_, rfl, rfl, rfl, ?_, ?_⟩
  · intro q hq; simp only [List.mem_cons, List.not_mem_nil, or_false] at hq; unfold In4 at ha hb hc hd; rcases hq with rfl | rfl | rfl | rfl <;> omega
  · intro q hq; simp only [List.mem_cons, List.not_mem_nil, or_false] at hq; unfold In4 at hx hy hz ht; rcases hq with rfl | rfl | rfl | rfl <;> omega
  · have n1 := bd ha hx; have n2 := bd hb hy; have n3 := bd hc hz; have n4 := bd hd ht
    have n5 := bd ha hy; have n6 := bd hb hx; have n7 := bd hc ht; have n8 := bd hd hz
    have n9 := bd ha hz; have n10 := bd hc hx; have n11 := bd hd hy; have n12 := bd hb ht
    have n13 := bd ha ht; have n14 := bd hd hx; have n15 := bd hb hz; have n16 := bd hc hy
    intro q hq
    simp only [mul4L, l4, q4, Sq.mul4, List.getD_cons_zero, List.getD_cons_succ, List.mem_cons, List.not_mem_nil, or_false] at hq
    rcases hq with rfl | rfl | rfl | rfl <;> omega
  · have e : mul4L [a, b, c, d] [x, y, z, t] = l4 (Sq.mul4 ⟨a, b, c, d⟩ ⟨x, y, z, t⟩) := rfl
    rw [e]
    unfold l4
    rw [sqTo_4, sqTo_4, sqTo_4]
    exact hm
end Go.Proofs.Ytofmmegpadojlaa
