/- What the law of root quads uses. -/
import Derived.Test.YtoaopmafokoaoabRtLa
import Derived.Test.YtoaopmafokoaoabCuQef
import Derived.Test.YtoaopmafokoaoabAsD
import Derived.Test.YtoaopmafokoaoabQdN
import Derived.Test.YtoaopmafokoaoabQdE
import Derived.Test.YtoaopmafokoaoabQdJ
import Derived.Test.YtoaopmafokoaoabQdX2
import Derived.Test.YtoaopmafokoaoabQdAs
namespace Go.Proofs.Ytoaopmafokoaoab
open Go.RowKit

theorem drewLaterR {fn : FuncId} {args : Array Value} {w base : World} {r : Ending} (h : Calls Try.prog fn args w fun e w' => e = r ∧ ∃ n, w' = w.drewN n) (hb : Later base w) : Calls Try.prog fn args w fun e w' => e = r ∧ Later base w' :=
  h.mono fun e w' ⟨he, n, hw⟩ => ⟨he, by rw [hw]; exact hb.trans (Later.drewN _ _)⟩
set_option maxRecDepth 20000 in
set_option maxHeartbeats 4000000 in
theorem drawRootsWith_any (v : Value) (bs : List Int) (w : World) (h : BytesR w v bs) :
    Calls Try.prog 42 #[v] w fun e w' => OneNumG w e w' := by
  have HC := hid (fun ty => Cur.newG w v bs h ty)
  obtain ⟨a, cap, rfl, _⟩ := id h
  clear h
  go_enter Try.func42, Try.ntmps42
  go_wp2_with fail
  refine (curAmong_any w _ w.heap.size _ bs 0 (w.heap.size + 1) 12 [1, 2, 3, 4, 5, 6, 10, 15, 30, 31, 0, -1] (by omega) (by simp) (by simp) (by omega) ((HC.out _).keep (Later.alloc _ _)) ?hl).mono ?_
  case hl =>
    intro i hi
    have h6 : i = 0 ∨ i = 1 ∨ i = 2 ∨ i = 3 ∨ i = 4 ∨ i = 5 ∨ i = 6 ∨ i = 7 ∨ i = 8 ∨ i = 9 ∨ i = 10 ∨ i = 11 := by simp at hi; omega
    rcases h6 with rfl | rfl | rfl | rfl | rfl | rfl | rfl | rfl | rfl | rfl | rfl | rfl <;> simp [go_sem]
  rintro e w1 ⟨k, rfl, _, hC, _⟩
  have HL := hid hC.later
  clear hC HC
  go_wp2_with fail
  go_ret
  exact ⟨k, rfl, HL.out⟩
set_option maxRecDepth 20000 in
set_option maxHeartbeats 4000000 in
theorem drawAllRootsUpTo_any (v : Value) (bs : List Int) (w : World) (h : BytesR w v bs) :
    Calls Try.prog 46 #[v] w fun e w' => OneNumG w e w' := by
  have HC := hid (fun ty => Cur.newG w v bs h ty)
  obtain ⟨a, cap, rfl, _⟩ := id h
  clear h
  go_enter Try.func46, Try.ntmps46
  go_wp2_with fail
  refine (curAmong_any w _ w.heap.size _ bs 0 (w.heap.size + 1) 8 [1, 2, 3, 5, 8, 11, 31, 0] (by omega) (by simp) (by simp) (by omega) ((HC.out _).keep (Later.alloc _ _)) ?hl).mono ?_
  case hl =>
    intro i hi
    have h6 : i = 0 ∨ i = 1 ∨ i = 2 ∨ i = 3 ∨ i = 4 ∨ i = 5 ∨ i = 6 ∨ i = 7 := by simp at hi; omega
    rcases h6 with rfl | rfl | rfl | rfl | rfl | rfl | rfl | rfl <;> simp [go_sem]
  rintro e w1 ⟨k, rfl, _, hC, _⟩
  have HL := hid hC.later
  clear hC HC
  go_wp2_with fail
  go_ret
  exact ⟨k, rfl, HL.out⟩
set_option maxRecDepth 20000 in
set_option maxHeartbeats 2000000 in
theorem dLess_lex (u v : Value) (xs ys : List Int) (w : World) (d : Nat) (hx : Ints w u xs) (hy : Ints w v ys) (h1 : d < xs.length) (h2 : d < ys.length) (heq : ∀ k, k < d → xs.getD k 0 = ys.getD k 0) (hlt : xs.getD d 0 < ys.getD d 0) :
    Calls Try.prog 45 #[u, v] w fun e w' => e = .returned (.bool true) ∧ ∃ n, w' = w.drewN n := by
  obtain ⟨a, cap, rfl, hl, hc⟩ := hx
  obtain ⟨b, cap2, rfl, hl2, hc2⟩ := hy
  have HC := hid hc
  have HC2 := hid hc2
  have HEQ := hid heq
  have HLT := hid hlt
  obtain ⟨N, hN⟩ : ∃ N, xs.length = N := ⟨_, rfl⟩
  obtain ⟨M, hM⟩ : ∃ N, ys.length = N := ⟨_, rfl⟩
  rw [hN] at HC h1 hl ⊢
  rw [hM] at HC2 h2 ⊢
  have H1 := hid h1
  have H2 := hid h2
  clear hc hc2 heq hlt hl2 hN hM h1 h2
  go_enter Try.func45, Try.ntmps45
  go_wp2_with fail
  go_loopw [8] (fun i wr => ∃ k n : Nat, k ≤ d ∧ i = .int .i64 k ∧ wr = w.drewN n) (fun i _ => d - (intOf i).toNat)
  case atStart => exact ⟨0, 0, Nat.zero_le _, rfl, rfl⟩
  case round =>
    obtain ⟨k, n, hk, rfl, rfl⟩ := hrel
    have hk1 : k < N := by have := H1.out; omega
    have hk2 : k < M := by have := H2.out; omega
    obtain ⟨ad, rfl, hcell⟩ := HC.out k hk1
    obtain ⟨ad2, rfl, hcell2⟩ := HC2.out k hk2
    have hi1 : (k : Int) < (N : Int) := by omega
    have hi2 : (k : Int) < (M : Int) := by omega
    by_cases hlt : k < d
    · have he := HEQ.out k hlt
      obtain ⟨z, hz⟩ : ∃ z, ys.getD k 0 = z := ⟨_, rfl⟩
      rw [he, hz] at hcell
      rw [hz] at hcell2
      have hb : (z != z) = false := by simp
      clear hz he
      go_wp2_with fail
      go_quiet (fail)
      go_wp2_with fail
      go_roundw
      case rel => exact ⟨k + 1, n + nq, hlt, by go_num, by simp⟩
      case measure => simp [intOf]; omega
    · obtain rfl : k = d := by omega
      have hl := HLT.out
      obtain ⟨y, hy⟩ : ∃ z, ys.getD k 0 = z := ⟨_, rfl⟩
      obtain ⟨x, hx⟩ : ∃ z, xs.getD k 0 = z := ⟨_, rfl⟩
      rw [hx] at hcell hl
      rw [hy] at hcell2 hl
      have hb : (x != y) = true := by simp; omega
      clear hx hy hlt
      go_wp2_with fail
      go_quiet (fail)
      go_wp2_with fail
      go_quiet (fail)
      go_wp2_with fail
      go_ret
      exact ⟨by simp, _, by simp; rfl⟩
theorem root_own {q : List Int} (hg : apB q = true) (hl : lastQ q = true) (hs : sortQ q = q) : rootQAns q = some q := by
  unfold rootQAns rootL
  rw [wayQ_one hl, if_pos ⟨hg, by simp⟩]
  show some (sortQ q) = some q
  rw [hs]
theorem lex_place {p q : List Int} (h : LexQ p q) (h0 : p.getD 0 0 = q.getD 0 0) (hp : p.length = 4) (hq : q.length = 4) : ∃ d, d < p.length ∧ d < q.length ∧ (∀ k, k < d → p.getD k 0 = q.getD k 0) ∧ p.getD d 0 < q.getD d 0 := by
  rcases h with h | ⟨h1, h2⟩
  · refine ⟨1, by omega, by omega, fun k hk => ?_, h⟩
    obtain rfl : k = 0 := by omega
    exact h0
  · refine ⟨2, by omega, by omega, fun k hk => ?_, h2⟩
    have : k = 0 ∨ k = 1 := by omega
    rcases this with rfl | rfl
    · exact h0
    · exact h1
end Go.Proofs.Ytoaopmafokoaoab
