/- The descent of four squares in the model. -/
import Derived.Test.YtofmmegpadojlaaSqCD4
import Derived.Test.YtofmmegpadojlaaSqBB
namespace Go.Proofs.Ytofmmegpadojlaa
open Go.RowKit

def sqTo (zs : List Int) (k : Nat) : Int := (zs.take k).foldl (fun s z => s + z * z) 0
theorem sqTo_step {zs : List Int} {k : Nat} {z : Int} (h : zs[k]? = some z) : sqTo zs (k + 1) = sqTo zs k + z * z := by
  unfold sqTo; rw [List.take_add_one, h, List.foldl_append]; rfl
set_option maxHeartbeats 1000000 in
theorem sqSum_any (v : Value) (zs : List Int) (w : World) (hl : zs.length = 4) (hz : ∀ z ∈ zs, -2000 ≤ z ∧ z ≤ 2000) (h : Ints w v zs) :
    Calls Try.prog 76 #[v] w fun e w' => e = .returned (.int .i64 (sqTo zs 4)) ∧ w = w' := by
  obtain ⟨a, cap, rfl, _, hc⟩ := h
  rw [hl]
  have HC := hid hc
  have HZ := hid hz
  have HZL := hid hl
  clear hc hz hl
  go_enter Try.func76, Try.ntmps76
  go_wp2_with fail
  go_loop [3, 8] (fun s i => ∃ k : Nat, k ≤ 4 ∧ i = .int .i64 k ∧ s = .int .i64 (sqTo zs k) ∧ 0 ≤ sqTo zs k ∧ sqTo zs k ≤ k * 4000000) (fun _ i => 4 - (intOf i).toNat)
  case atStart => exact ⟨0, Nat.zero_le _, rfl, rfl, Int.le_refl _, Int.le_refl _⟩
  case round =>
    obtain ⟨k, hk, rfl, rfl, hs0, hs1⟩ := hrel
    by_cases hlt : (k : Int) < 4
    · obtain ⟨ad, rfl, hcell⟩ := HC.out k (by rw [HZL.out]; omega)
      obtain ⟨z, hz⟩ : ∃ z, zs[k]? = some z := ⟨zs[k]'(by rw [HZL.out]; omega), by simp⟩
      have hg : zs.getD k 0 = z := by rw [List.getD_eq_getElem?_getD, hz]; rfl
      rw [hg] at hcell
      have hzb := HZ.out z (List.mem_of_getElem? hz)
      have hzz := mulBdC (x := z) (y := z) hzb hzb
      have hzp := Sq.sq0 z
      have HS := hid (sqTo_step hz)
      obtain ⟨s, hs⟩ : ∃ s, sqTo zs k = s := ⟨_, rfl⟩
      rw [hs] at HS hs0 hs1 ⊢
      clear hz hg hs hzb
      go_wp2_with fail
      go_round
      case rel => exact ⟨k + 1, by omega, by go_num, by rw [HS.out], by rw [HS.out]; omega, by rw [HS.out]; omega⟩
      case measure => simp [intOf]; omega
    · have hke : k = 4 := by omega
      subst hke
      go_wp2_with fail
      go_ret
      exact ⟨rfl, rfl⟩
theorem sqTo_4 (a b c d : Int) : sqTo [a, b, c, d] 4 = a * a + b * b + c * c + d * d := by simp [sqTo]
theorem step4 {a b c d k : Int} (ha : -2000 ≤ a ∧ a ≤ 2000) (hb : -2000 ≤ b ∧ b ≤ 2000) (hc : -2000 ≤ c ∧ c ≤ 2000) (hd : -2000 ≤ d ∧ d ≤ 2000) (hk : 1 ≤ k ∧ k ≤ 2000) :
    ∃ x1 x2 x3 x4 : Int, Sq.mul4 ⟨a, b, c, d⟩ ⟨Sq.near a k, Sq.near b k, Sq.near c k, Sq.near d k⟩ = ⟨x1, x2, x3, x4⟩ ∧ (∀ x ∈ [x1, x2, x3, x4], -1000000000 ≤ x ∧ x ≤ 1000000000) ∧ Sq.st4 ⟨a, b, c, d⟩ k = ⟨Sq.iabs x1 / k, Sq.iabs x2 / k, Sq.iabs x3 / k, Sq.iabs x4 / k⟩ := by
  have hun := near_bd4 a k hk
  have hvn := near_bd4 b k hk
  have hsn := near_bd4 c k hk
  have htn := near_bd4 d k hk
  obtain ⟨⟨x1, x2, x3, x4⟩, hmq⟩ : ∃ q, Sq.mul4 ⟨a, b, c, d⟩ ⟨Sq.near a k, Sq.near b k, Sq.near c k, Sq.near d k⟩ = q := ⟨_, rfl⟩
  refine ⟨x1, x2, x3, x4, hmq, ?_, ?_⟩
  · have hq4 := hmq
    simp only [Sq.mul4, Sq.Q4.mk.injEq] at hq4
    obtain ⟨y1, y2, y3, y4⟩ := hq4
    have bb : ∀ {x y : Int}, (-2000 ≤ x ∧ x ≤ 2000) → (-2000 ≤ y ∧ y ≤ 2000) → -(2000 * 2000) ≤ x * y ∧ x * y ≤ 2000 * 2000 := fun hx hy => mulBdC hx hy
    have n1 := And.intro (bb ha hun) (And.intro (bb hb hvn) (And.intro (bb hc hsn) (bb hd htn)))
    have n2 := And.intro (bb ha hvn) (And.intro (bb hb hun) (And.intro (bb hc htn) (bb hd hsn)))
    have n3 := And.intro (bb ha hsn) (And.intro (bb hc hun) (And.intro (bb hd hvn) (bb hb htn)))
    have n4 := And.intro (bb ha htn) (And.intro (bb hd hun) (And.intro (bb hb hsn) (bb hc hvn)))
    have X1 : -1000000000 ≤ x1 ∧ x1 ≤ 1000000000 := by clear n2 n3 n4 y2 y3 y4; omega
    have X2 : -1000000000 ≤ x2 ∧ x2 ≤ 1000000000 := by clear n1 n3 n4 y1 y3 y4; omega
    have X3 : -1000000000 ≤ x3 ∧ x3 ≤ 1000000000 := by clear n1 n2 n4 y1 y2 y4; omega
    have X4 : -1000000000 ≤ x4 ∧ x4 ≤ 1000000000 := by clear n1 n2 n3 y1 y2 y3; omega
    intro x hx
    simp only [List.mem_cons, List.not_mem_nil, or_false] at hx
    rcases hx with rfl | rfl | rfl | rfl
    · exact X1
    · exact X2
    · exact X3
    · exact X4
  · show (Sq.mul4 ⟨a, b, c, d⟩ ⟨Sq.near a k, Sq.near b k, Sq.near c k, Sq.near d k⟩).map (fun x => Sq.iabs x / k) = _
    rw [hmq]; rfl
end Go.Proofs.Ytofmmegpadojlaa
