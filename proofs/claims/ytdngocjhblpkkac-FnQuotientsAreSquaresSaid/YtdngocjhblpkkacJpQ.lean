/- Ways of pairs in the program: DescendPair, AscendPair; the equation of whole quotients; QuotientRun, QuotientPairs. -/
import Derived.Test.YtdngocjhblpkkacJpH
import Derived.Test.YtdngocjhblpkkacJpM
import Derived.Test.YtdngocjhblpkkacJuS
namespace Go.Proofs.Ytdngocjhblpkkac
open Go.RowKit

theorem pairOk_yesQ {k c x y : Int} (h : juB x y k c = true) : pairOk (prodS k c) x y = some (x, y) := by rw [pairOk_prod, if_pos h]
theorem pairOk_noQ {k c x y : Int} (h : juB x y k c = false) : pairOk (prodS k c) x y = none := by rw [pairOk_prod, if_neg (by rw [h]; simp)]
theorem juB_WQ {x y k c : Int} (h : juB x y k c = true) : juW k c = true := by unfold juB at h; simp only [Bool.and_eq_true] at h; exact h.1
theorem me_QS (n : Nat) (w : World) (q : Int) : (method (n + 1) 36 (.agg #[.int .i64 q]) "loop.example/g01122/impl.isSolvedBy").run Try.prog w = .ok (49, .agg #[.int .i64 q]) w := by kernel_rfl
theorem me_QO (n : Nat) (w : World) (q : Int) : (method (n + 1) 36 (.agg #[.int .i64 q]) "loop.example/g01122/impl.otherRoot").run Try.prog w = .ok (50, .agg #[.int .i64 q]) w := by kernel_rfl
def quoS (q : Int) : Int → Int → Bool := fun x y => (quoJ x y).isSome && ((quoJ x y).getD 0 == q)
set_option maxRecDepth 20000 in
set_option maxHeartbeats 2000000 in
theorem quoSolved_any (q x y : Int) (w : World) :
    Calls Try.prog 49 #[.agg #[.int .i64 q], .agg #[.int .i64 x, .int .i64 y]] w fun e w' => BoolRes w (quoS q x y) e w' := by
  have HL := hid ((Later.alloc w (.cells #[.int .i64 q] 36)).trans (Later.alloc _ (.cells #[.int .i64 x, .int .i64 y] 48)))
  have HB := hid (show ((w.alloc (.cells #[.int .i64 q] 36)).alloc (.cells #[.int .i64 x, .int .i64 y] 48)).cell? ⟨w.heap.size, 0, none⟩ = some (.int .i64 q) by simp [go_sem])
  have HC := hid (JBox.snd w (.cells #[.int .i64 q] 36) x y 48)
  have HQ := hid (fun w0 => implSquareQuotient_any x y w0)
  have HS := hid (show quoS q x y = ((quoJ x y).isSome && ((quoJ x y).getD 0 == q)) from rfl)
  obtain ⟨o, ho⟩ : ∃ o, quoJ x y = o := ⟨_, rfl⟩
  rw [ho] at HQ HS
  obtain ⟨n, hn⟩ : ∃ n, o.getD 0 = n := ⟨_, rfl⟩
  rw [hn] at HQ HS
  rw [HS.out]
  clear ho hn HS
  cases hi : o.isSome
  · rw [hi] at HQ
    clear hi
    go_enter Try.func49, Try.ntmps49
    go_upto_region 1 with fail
    generalize (w.alloc (.cells #[.int .i64 q] 36)).alloc (.cells #[.int .i64 x, .int .i64 y] 48) = w1 at HL HB HC ⊢
    have b0 := HB.out
    obtain ⟨c0, c1, _, _⟩ := HC.out
    go_wp2_with (go_at_call 6; refine (HQ.out _).mono ?_; rintro e w2 ⟨rfl, rfl⟩)
    go_ret
    exact ⟨rfl, HL.out⟩
  · rw [hi] at HQ
    clear hi
    go_enter Try.func49, Try.ntmps49
    go_upto_region 1 with fail
    generalize (w.alloc (.cells #[.int .i64 q] 36)).alloc (.cells #[.int .i64 x, .int .i64 y] 48) = w1 at HL HB HC ⊢
    have b0 := HB.out
    obtain ⟨c0, c1, _, _⟩ := HC.out
    go_wp2_with (go_at_call 6; refine (HQ.out _).mono ?_; rintro e w2 ⟨rfl, rfl⟩)
    go_ret
    exact ⟨rfl, HL.out⟩
set_option maxRecDepth 20000 in
set_option maxHeartbeats 2000000 in
theorem quoRoot_any (k x y : Int) (w : World) (hk : 0 ≤ k ∧ k ≤ 1000000000000) (hx : 0 ≤ x ∧ x ≤ 1000000) (hy : 0 ≤ y ∧ y ≤ 1000000) :
    Calls Try.prog 50 #[.agg #[.int .i64 k], .int .i64 x, .int .i64 y] w fun e w' => e = .returned (.int .i64 (k * y - x)) ∧ Later w w' := by
  have HL := hid (Later.alloc w (.cells #[.int .i64 k] 36))
  obtain ⟨q1, q2⟩ := mulBd hk hy (by omega)
  obtain ⟨h1, h2⟩ := hx
  go_enter Try.func50, Try.ntmps50
  go_wp2_with fail
  go_ret
  exact ⟨rfl, HL.out⟩
theorem quoEq (q : Int) (hk : 0 ≤ q ∧ q ≤ 1000000000000) : EqJ 36 (.agg #[.int .i64 q]) 49 50 (quoS q) q :=
  ⟨⟨fun n w => me_QS n w q, Try.call49, fun x y w _ => quoSolved_any q x y w⟩, fun n w => me_QO n w q, Try.call50, fun x y w hx hy => quoRoot_any q x y w hk hx hy⟩
end Go.Proofs.Ytdngocjhblpkkac
