/- What the model draws for the laws of Hurwitz; sums and squares of a list as the laws take them. -/
import Derived.Test.YtoaopmafokoaoaaCuHu
import Derived.Test.YtoaopmafokoaoaaHuLa
import Derived.Test.YtoaopmafokoaoaaHuJK
import Derived.Test.YtoaopmafokoaoaaAsG
namespace Go.Proofs.Ytoaopmafokoaoaa
open Go.RowKit

theorem results_fourG {fn : Func} {t u v s : Tmp} (h : fn.results = #[.tmp t, .tmp u, .tmp v, .tmp s]) (tmps : Array Value) (P : Program) (w : World) :
    (results fn tmps).run P w = .ok (.tuple #[tmps.getD t undef, tmps.getD u undef, tmps.getD v undef, tmps.getD s undef]) w := by
  simp [results, h]
def ListTwoG (base : World) (e : Ending) (w' : World) : Prop := ∃ u zs, ∃ a b : Int, e = .returned (.tuple #[u, .int .i64 a, .int .i64 b]) ∧ OwnInts base.heap.size w'.heap.size w' u zs ∧ zs.length ≤ 4 ∧ Later base w'
def ListThreeG (base : World) (e : Ending) (w' : World) : Prop := ∃ u zs, ∃ a b i : Int, e = .returned (.tuple #[u, .int .i64 a, .int .i64 b, .int .i64 i]) ∧ OwnInts base.heap.size w'.heap.size w' u zs ∧ zs.length ≤ 4 ∧ Later base w'
def sqK (zs : List Int) (k : Nat) : Int := sqs (zs.take k)
theorem sqK_step {zs : List Int} {k : Nat} (h : k < zs.length) : sqK zs (k + 1) = sqK zs k + zs.getD k 0 * zs.getD k 0 := by
  unfold sqK sqs
  rw [take_snoc zs k h, List.map_append, List.sum_append, getD_at zs k h]
  simp
theorem sqK_bd {zs : List Int} (h : In5 zs) : ∀ k, k ≤ zs.length → 0 ≤ sqK zs k ∧ sqK zs k ≤ k * 10000000000 := by
  intro k
  induction k with
  | zero => intro _; simp [sqK, sqs]
  | succ k ih =>
    intro hk
    obtain ⟨h1, h2⟩ := ih (by omega)
    have hz := h (zs.getD k 0) (by rw [getD_at zs k (by omega)]; exact List.getElem_mem _)
    have q := Int.mul_le_mul hz.2 hz.2 (by omega) (by omega)
    have q0 := Int.mul_nonneg (show 0 ≤ zs.getD k 0 by omega) (show 0 ≤ zs.getD k 0 by omega)
    rw [sqK_step (by omega)]
    omega
theorem suK_step {zs : List Int} {k : Nat} (h : k < zs.length) : sumL (zs.take (k + 1)) = sumL (zs.take k) + zs.getD k 0 := by
  unfold sumL
  rw [take_snoc zs k h, List.sum_append, getD_at zs k h]
  simp
theorem suK_bd {zs : List Int} (h : In5 zs) : ∀ k, k ≤ zs.length → 0 ≤ sumL (zs.take k) ∧ sumL (zs.take k) ≤ k * 100000 := by
  intro k
  induction k with
  | zero => intro _; simp [sumL]
  | succ k ih =>
    intro hk
    obtain ⟨h1, h2⟩ := ih (by omega)
    have hz := h (zs.getD k 0) (by rw [getD_at zs k (by omega)]; exact List.getElem_mem _)
    rw [suK_step (by omega)]
    omega
set_option maxHeartbeats 1000000 in
theorem vSumH_any (v : Value) (zs : List Int) (w : World) (hl : zs.length ≤ 4) (h5 : In5 zs) (h : Ints w v zs) :
    Calls Try.prog 12 #[v] w fun e w' => e = .returned (.int .i64 (sumL zs)) ∧ w = w' := by
  obtain ⟨a, cap, rfl, _, hc⟩ := h
  have HC := hid hc
  have H5 := hid h5
  obtain ⟨N, hN⟩ : ∃ n, zs.length = n := ⟨_, rfl⟩
  have HN := hid hN
  rw [hN] at hl ⊢
  clear hc h5 hN
  go_enter Try.func12, Try.ntmps12
  go_wp2_with fail
  go_loop [3, 8] (fun s i => ∃ k : Nat, k ≤ N ∧ i = .int .i64 k ∧ s = .int .i64 (sumL (zs.take k))) (fun _ i => N - (intOf i).toNat)
  case atStart => exact ⟨0, Nat.zero_le _, rfl, rfl⟩
  case round =>
    obtain ⟨k, hk, rfl, rfl⟩ := hrel
    by_cases hlt : k < N
    · have hltI : (k : Int) < (N : Int) := by omega
      obtain ⟨ad, rfl, hcell⟩ := HC.out k (by rw [HN.out]; exact hlt)
      obtain ⟨b1, b2⟩ := suK_bd H5.out (k + 1) (by rw [HN.out]; omega)
      have hst := suK_step (zs := zs) (k := k) (by rw [HN.out]; exact hlt)
      obtain ⟨z, hz⟩ : ∃ z, zs.getD k 0 = z := ⟨_, rfl⟩
      rw [hz] at hcell hst
      obtain ⟨s, hs⟩ : ∃ s, sumL (zs.take k) = s := ⟨_, rfl⟩
      rw [hs] at hst ⊢
      have hsw := wrapQ (q := s + z) (by omega)
      have HST := hid hst
      clear hz hs hst b1 b2
      go_wp2_with fail
      go_round
      case rel => exact ⟨k + 1, by omega, by go_num, by rw [HST.out]⟩
      case measure => simp [intOf]; omega
    · have hke : k = N := by omega
      have e : sumL (zs.take k) = sumL zs := by rw [hke, ← HN.out, List.take_length]
      rw [e]
      go_wp2_with fail
      go_ret
      exact ⟨rfl, rfl⟩
theorem vSolves_yes (v : Value) (zs : List Int) (a b : Int) (w : World) (hs : Sol zs a b) (h : Ints w v zs) :
    Calls Try.prog 11 #[v, .int .i64 a, .int .i64 b] w fun e w' => e = .returned (.bool true) ∧ Later w w' := by
  have HI := hid (bool_as9 (o := some true) (z := true) (t := true) (by have h := implIsHurwitz_any v zs a b w h; rw [show isHuAns zs a b = some true by unfold isHuAns; rw [hs.given, hs.sol]; rfl] at h; exact h) rfl rfl)
  clear h hs
  go_enter Try.func11, Try.ntmps11
  go_wp2_with fail
  refine HI.out.mono ?_
  rintro e w1 ⟨rfl, hL⟩
  have HL := hid hL
  clear hL
  go_wp2_with fail
  go_ret
  exact ⟨rfl, HL.out⟩
end Go.Proofs.Ytoaopmafokoaoaa
