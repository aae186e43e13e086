/- All right triples up to a bound: the order of triples, in both. -/
import Derived.Test.YtdahhcigphhfdacRiO
import Derived.Test.YtdahhcigphhfdacRiS
namespace Go.Proofs.Ytdahhcigphhfdac
open Go.RowKit

set_option maxHeartbeats 2000000 in
theorem riBefore_any (p q : Rt) (u v : Value) (w : World) (hu : Ints w u (rtL p)) (hv : Ints w v (rtL q)) :
    Calls Try.prog 117 #[u, v] w fun e w' => e = .returned (.bool (befR p q)) ∧ Drew w w' := by
  obtain ⟨x, y, z, ad, cap, e1, rfl, c0, _, c2⟩ := hu.threeR rfl
  obtain ⟨x', y', z', ad', cap', e2, rfl, d0, _, d2⟩ := hv.threeR rfl
  have hx : rtX p = x := by have := congrArg (fun l => l.getD 0 0) e1; exact this
  have hz : rtZ p = z := by have := congrArg (fun l => l.getD 2 0) e1; exact this
  have hx' : rtX q = x' := by have := congrArg (fun l => l.getD 0 0) e2; exact this
  have hz' : rtZ q = z' := by have := congrArg (fun l => l.getD 2 0) e2; exact this
  have HE := hid (show befR p q = (decide (z < z') || (decide (z = z') && decide (x < x'))) by unfold befR; rw [hx, hz, hx', hz'])
  clear hx hz hx' hz' e1 e2 hu hv
  by_cases h1 : z < z'
  · have HA := hid (show befR p q = true by rw [HE.out, decide_eq_true h1]; rfl)
    have hd1 : decide (z < z') = true := decide_eq_true h1
    go_enter Try.func117, Try.ntmps117
    go_wp2_with fail
    go_quiet (fail)
    go_wp2_with fail
    go_ret
    exact ⟨ret_bool HA.out.symm, ⟨_, rfl⟩⟩
  · have hd1 : decide (z < z') = false := decide_eq_false h1
    by_cases h2 : z = z'
    · have hb2 : (z == z') = true := beq_iff_eq.2 h2
      by_cases h3 : x < x'
      · have HA := hid (show befR p q = true by rw [HE.out, decide_eq_true h2, decide_eq_true h3]; simp)
        have hd3 : decide (x < x') = true := decide_eq_true h3
        subst h2
        go_enter Try.func117, Try.ntmps117
        go_wp2_with fail
        go_quiet (fail)
        go_wp2_with fail
        go_ret
        exact ⟨ret_bool HA.out.symm, ⟨_, rfl⟩⟩
      · have HA := hid (show befR p q = false by rw [HE.out, decide_eq_false h1, decide_eq_false h3]; simp)
        have hd3 : decide (x < x') = false := decide_eq_false h3
        subst h2
        go_enter Try.func117, Try.ntmps117
        go_wp2_with fail
        go_quiet (fail)
        go_wp2_with fail
        go_ret
        exact ⟨ret_bool HA.out.symm, ⟨_, rfl⟩⟩
    · have HA := hid (show befR p q = false by rw [HE.out, decide_eq_false h1, decide_eq_false h2]; rfl)
      have hb2 : (z == z') = false := beq_eq_false_iff_ne.2 h2
      go_enter Try.func117, Try.ntmps117
      go_wp2_with fail
      go_quiet (fail)
      go_wp2_with fail
      go_ret
      exact ⟨ret_bool HA.out.symm, ⟨_, rfl⟩⟩
end Go.Proofs.Ytdahhcigphhfdac
