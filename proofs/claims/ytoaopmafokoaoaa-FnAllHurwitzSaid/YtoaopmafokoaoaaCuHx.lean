/- CuHw, CuHc, CuHb: in one text. -/
import Derived.Test.YtoaopmafokoaoaaCuHv
import Derived.Test.YtoaopmafokoaoaaHuLbx
import Derived.Test.YtoaopmafokoaoaaWrQ
import Derived.Test.YtoaopmafokoaoaaBasB
namespace Go.Proofs.Ytoaopmafokoaoaa
open Go.RowKit


theorem vSolves_as (v : Value) (zs : List Int) (a b : Int) (t : Bool) (w : World) (hs : (givenB a b && solB zs a b) = t) (h : Ints w v zs) :
    Calls Try.prog 11 #[v, .int .i64 a, .int .i64 b] w fun e w' => e = .returned (.bool t) ∧ Later w w' := by
  obtain ⟨b1, hb1⟩ : ∃ t, (isHuAns zs a b).getD false = t := ⟨_, rfl⟩
  obtain ⟨b2, hb2⟩ : ∃ t, (isHuAns zs a b).isSome = t := ⟨_, rfl⟩
  have HT := hid (show (b1 && b2) = t by rw [← hb1, ← hb2, isHu_and]; exact hs)
  have HI := hid (bool_as9 (implIsHurwitz_any v zs a b w h) hb1 hb2)
  clear h hs hb1 hb2
  cases b1 <;> cases b2
  all_goals
    go_enter Try.func11, Try.ntmps11
    go_wp2_with fail
    refine HI.out.mono ?_
    rintro e w1 ⟨rfl, hL⟩
    have HL := hid hL
    clear hL
    go_wp2_with fail
    go_ret
    exact ⟨by rw [← HT.out]; rfl, HL.out⟩


def ListFourG (base : World) (e : Ending) (w' : World) : Prop := ∃ u zs t ws, ∃ a b : Int, e = .returned (.tuple #[u, .int .i64 a, .int .i64 b, t]) ∧ OwnInts base.heap.size w'.heap.size w' u zs ∧ zs.length ≤ 4 ∧ OwnInts base.heap.size w'.heap.size w' t ws ∧ ws.length ≤ 50 ∧ Later base w'
set_option maxRecDepth 20000 in
set_option maxHeartbeats 2000000 in
/-- the first place where two lists differ decides -/
theorem vBefore_lex (u v : Value) (xs ys : List Int) (w : World) (d : Nat) (hx : Ints w u xs) (hy : Ints w v ys) (h1 : d < xs.length) (h2 : d < ys.length) (heq : ∀ k, k < d → xs.getD k 0 = ys.getD k 0) (hlt : xs.getD d 0 < ys.getD d 0) :
    Calls Try.prog 13 #[u, v] w fun e w' => e = .returned (.bool true) ∧ ∃ n, w' = w.drewN n := by
  obtain ⟨a, cap, rfl, hl, hc⟩ := hx
  obtain ⟨b, cap2, rfl, hl2, hc2⟩ := hy
  have HC := hid hc
  have HC2 := hid hc2
  have HEQ := hid heq
  have HLT := hid hlt
  obtain ⟨N, hN⟩ : ∃ N, xs.length = N := ⟨_, rfl⟩
  obtain ⟨M, hM⟩ : ∃ N, ys.length = N := ⟨_, rfl⟩
  rw [hN] at HC h1 hl ⊢
  rw [hM] at HC2 h2 ⊢
  have H1 := hid h1
  have H2 := hid h2
  clear hc hc2 heq hlt hl2 hN hM h1 h2
  go_enter Try.func13, Try.ntmps13
  go_wp2_with fail
  go_loopw [5] (fun i wr => ∃ k n : Nat, k ≤ d ∧ i = .int .i64 k ∧ wr = w.drewN n) (fun i _ => d - (intOf i).toNat)
  case atStart => exact ⟨0, 0, Nat.zero_le _, rfl, rfl⟩
  case round =>
    obtain ⟨k, n, hk, rfl, rfl⟩ := hrel
    have hk1 : k < N := by have := H1.out; omega
    have hk2 : k < M := by have := H2.out; omega
    obtain ⟨ad, rfl, hcell⟩ := HC.out k hk1
    obtain ⟨ad2, rfl, hcell2⟩ := HC2.out k hk2
    have hi1 : (k : Int) < (N : Int) := by omega
    have hi2 : (k : Int) < (M : Int) := by omega
    by_cases hlt : k < d
    · have he := HEQ.out k hlt
      obtain ⟨z, hz⟩ : ∃ z, ys.getD k 0 = z := ⟨_, rfl⟩
      rw [he, hz] at hcell
      rw [hz] at hcell2
      have hb : (z != z) = false := by simp
      clear hz he
      go_wp2_with fail
      go_quiet (fail)
      go_wp2_with fail
      go_roundw
      case rel => exact ⟨k + 1, n + nq, hlt, by go_num, by simp⟩
      case measure => simp [intOf]; omega
    · obtain rfl : k = d := by omega
      have hl := HLT.out
      obtain ⟨y, hy⟩ : ∃ z, ys.getD k 0 = z := ⟨_, rfl⟩
      obtain ⟨x, hx⟩ : ∃ z, xs.getD k 0 = z := ⟨_, rfl⟩
      rw [hx] at hcell hl
      rw [hy] at hcell2 hl
      have hb : (x != y) = true := by simp; omega
      clear hx hy hlt
      go_wp2_with fail
      go_quiet (fail)
      go_wp2_with fail
      go_quiet (fail)
      go_wp2_with fail
      go_ret
      exact ⟨by simp, _, by simp; rfl⟩
end Go.Proofs.Ytoaopmafokoaoaa
