/- What the model draws for the laws of Hurwitz; sums and squares of a list as the laws take them. -/
import Derived.Test.YtdahhcigphhfdadCuHu
import Derived.Test.YtdahhcigphhfdadHuLa
import Derived.Test.YtdahhcigphhfdadHuK
import Derived.Test.YtdahhcigphhfdadAsG
namespace Go.Proofs.Ytdahhcigphhfdad
open Go.RowKit

theorem results_fourG {fn : Func} {t u v s : Tmp} (h : fn.results = #[.tmp t, .tmp u, .tmp v, .tmp s]) (tmps : Array Value) (P : Program) (w : World) :
    (results fn tmps).run P w = .ok (.tuple #[tmps.getD t undef, tmps.getD u undef, tmps.getD v undef, tmps.getD s undef]) w := by
  simp [results, h]
def ListTwoG (base : World) (e : Ending) (w' : World) : Prop := ∃ u zs, ∃ a b : Int, e = .returned (.tuple #[u, .int .i64 a, .int .i64 b]) ∧ OwnInts base.heap.size w'.heap.size w' u zs ∧ zs.length ≤ 4 ∧ Later base w'
def ListThreeG (base : World) (e : Ending) (w' : World) : Prop := ∃ u zs, ∃ a b i : Int, e = .returned (.tuple #[u, .int .i64 a, .int .i64 b, .int .i64 i]) ∧ OwnInts base.heap.size w'.heap.size w' u zs ∧ zs.length ≤ 4 ∧ Later base w'
set_option maxRecDepth 20000 in
set_option maxHeartbeats 4000000 in
theorem drawOtherRootAt_any (v : Value) (bs : List Int) (w : World) (h : BytesR w v bs) :
    Calls Try.prog 31 #[v] w fun e w' => ListThreeG w e w' := by
  have HC := hid (fun ty => Cur.newG w v bs h ty)
  obtain ⟨a, cap, rfl, _⟩ := id h
  clear h
  go_enter Try.func31, Try.ntmps31
  go_wp2_with fail
  refine (curHurwitz_any w _ w.heap.size _ bs 0 (by omega) (HC.out _)).mono ?_
  rintro e w1 ⟨u, zs, α, β, rfl, ho, hl, hC⟩
  obtain ⟨pa, ca, rfl, _⟩ := ho.shape
  have HO := hid ho
  have HC1 := hid hC
  obtain ⟨N, hN⟩ : ∃ n, zs.length = n := ⟨_, rfl⟩
  have HN := hid hN
  rw [hN] at HO hl ⊢
  have hNw := wrapQ (q := (N : Int) + 2) (by omega)
  clear ho hC hN
  go_wp2_with fail
  refine (curPick_any w w1 w.heap.size _ bs _ ((N : Int) + 2) (by omega) (by omega) HC1.out).mono ?_
  rintro e w2 ⟨x, rfl, x0, x1, hC, hG⟩
  have HC2 := hid hC
  have HO2 := hid (HO.out.keepG (Nat.lt_succ_self _) hG)
  have x2 : x ≤ 5 := by split at x1 <;> omega
  clear hC hG x1 HO
  go_wp2_with fail
  refine (curPick_any w w2 w.heap.size _ bs _ 9 (by omega) (by omega) HC2.out).mono ?_
  rintro e w3 ⟨y, rfl, y0, y1, hC, hG⟩
  have HO3 := hid ((HO2.out.keepG (Nat.lt_succ_self _) hG).wide (show w.heap.size ≤ w.heap.size + 1 by omega) (Nat.le_refl _))
  have HL3 := hid hC.later
  have y2 : y ≤ 8 := by simpa using y1
  obtain ⟨d, hd⟩ : ∃ d, y.tdiv 8 = d := ⟨_, rfl⟩
  have hd2 : y / 8 = d := by rw [← hd, Int.tdiv_eq_ediv_of_nonneg y0]
  have hd0 : 0 ≤ d ∧ d ≤ 1 := by omega
  have hdw := wrapQ (q := d) (by omega)
  clear hC hG y1
  go_wp2_with fail
  refine bodyPost_ret (results_fourG rfl _ _ _) rfl ?_
  exact ⟨_, zs, α, β, _, rfl, HO3.out, by rw [HN.out]; exact hl, HL3.out⟩
theorem drawJumpAt_any (v : Value) (bs : List Int) (w : World) (h : BytesR w v bs) :
    Calls Try.prog 7 #[v] w fun e w' => ListThreeG w e w' := by
  have HC := hid (drawOtherRootAt_any v bs w h)
  clear h
  go_enter Try.func7, Try.ntmps7
  go_wp2_with fail
  refine HC.out.mono ?_
  rintro e w1 ⟨u, zs, α, β, i, rfl, ho, hl, hL⟩
  have HO := hid ho
  have HL := hid hL
  clear ho hL
  go_wp2_with fail
  refine bodyPost_ret (results_fourG rfl _ _ _) rfl ?_
  exact ⟨u, zs, α, β, i, rfl, HO.out, hl, HL.out⟩
def sqK (zs : List Int) (k : Nat) : Int := sqs (zs.take k)
theorem sqK_step {zs : List Int} {k : Nat} (h : k < zs.length) : sqK zs (k + 1) = sqK zs k + zs.getD k 0 * zs.getD k 0 := by
  unfold sqK sqs
  rw [take_snoc zs k h, List.map_append, List.sum_append, getD_at zs k h]
  simp
theorem sqK_bd {zs : List Int} (h : In5 zs) : ∀ k, k ≤ zs.length → 0 ≤ sqK zs k ∧ sqK zs k ≤ k * 10000000000 := by
  intro k
  induction k with
  | zero => intro _; simp [sqK, sqs]
  | succ k ih =>
    intro hk
    obtain ⟨h1, h2⟩ := ih (by omega)
    have hz := h (zs.getD k 0) (by rw [getD_at zs k (by omega)]; exact List.getElem_mem _)
    have q := Int.mul_le_mul hz.2 hz.2 (by omega) (by omega)
    have q0 := Int.mul_nonneg (show 0 ≤ zs.getD k 0 by omega) (show 0 ≤ zs.getD k 0 by omega)
    rw [sqK_step (by omega)]
    omega
theorem suK_step {zs : List Int} {k : Nat} (h : k < zs.length) : sumL (zs.take (k + 1)) = sumL (zs.take k) + zs.getD k 0 := by
  unfold sumL
  rw [take_snoc zs k h, List.sum_append, getD_at zs k h]
  simp
theorem suK_bd {zs : List Int} (h : In5 zs) : ∀ k, k ≤ zs.length → 0 ≤ sumL (zs.take k) ∧ sumL (zs.take k) ≤ k * 100000 := by
  intro k
  induction k with
  | zero => intro _; simp [sumL]
  | succ k ih =>
    intro hk
    obtain ⟨h1, h2⟩ := ih (by omega)
    have hz := h (zs.getD k 0) (by rw [getD_at zs k (by omega)]; exact List.getElem_mem _)
    rw [suK_step (by omega)]
    omega
set_option maxHeartbeats 1000000 in
theorem vSquaresH_any (v : Value) (zs : List Int) (w : World) (hl : zs.length ≤ 4) (h5 : In5 zs) (h : Ints w v zs) :
    Calls Try.prog 13 #[v] w fun e w' => e = .returned (.int .i64 (sqs zs)) ∧ w = w' := by
  obtain ⟨a, cap, rfl, _, hc⟩ := h
  have HC := hid hc
  have H5 := hid h5
  obtain ⟨N, hN⟩ : ∃ n, zs.length = n := ⟨_, rfl⟩
  have HN := hid hN
  rw [hN] at hl ⊢
  clear hc h5 hN
  go_enter Try.func13, Try.ntmps13
  go_wp2_with fail
  go_loop [3, 8] (fun s i => ∃ k : Nat, k ≤ N ∧ i = .int .i64 k ∧ s = .int .i64 (sqK zs k)) (fun _ i => N - (intOf i).toNat)
  case atStart => exact ⟨0, Nat.zero_le _, rfl, rfl⟩
  case round =>
    obtain ⟨k, hk, rfl, rfl⟩ := hrel
    by_cases hlt : k < N
    · have hltI : (k : Int) < (N : Int) := by omega
      obtain ⟨ad, rfl, hcell⟩ := HC.out k (by rw [HN.out]; exact hlt)
      obtain ⟨b1, b2⟩ := sqK_bd H5.out (k + 1) (by rw [HN.out]; omega)
      have hst := sqK_step (zs := zs) (k := k) (by rw [HN.out]; exact hlt)
      have hzb := H5.out (zs.getD k 0) (by rw [getD_at zs k (by rw [HN.out]; exact hlt)]; exact List.getElem_mem _)
      obtain ⟨z, hz⟩ : ∃ z, zs.getD k 0 = z := ⟨_, rfl⟩
      rw [hz] at hcell hst hzb
      have q := Int.mul_le_mul hzb.2 hzb.2 (by omega) (by omega)
      have q0 := Int.mul_nonneg (show 0 ≤ z by omega) (show 0 ≤ z by omega)
      obtain ⟨Q, hQ⟩ : ∃ Q, z * z = Q := ⟨_, rfl⟩
      rw [hQ] at hst q q0
      obtain ⟨s, hs⟩ : ∃ s, sqK zs k = s := ⟨_, rfl⟩
      rw [hs] at hst ⊢
      have hQw := wrapQ (q := Q) (by omega)
      have hsw := wrapQ (q := s + Q) (by omega)
      have HST := hid hst
      clear hz hs hst b1 b2 hzb q q0
      go_wp2_with fail
      go_round
      case rel => exact ⟨k + 1, by omega, by go_num, by rw [HST.out]⟩
      case measure => simp [intOf]; omega
    · have hke : k = N := by omega
      have e : sqK zs k = sqs zs := by unfold sqK; rw [hke, ← HN.out, List.take_length]
      rw [e]
      go_wp2_with fail
      go_ret
      exact ⟨rfl, rfl⟩
set_option maxHeartbeats 1000000 in
theorem vSumH_any (v : Value) (zs : List Int) (w : World) (hl : zs.length ≤ 4) (h5 : In5 zs) (h : Ints w v zs) :
    Calls Try.prog 15 #[v] w fun e w' => e = .returned (.int .i64 (sumL zs)) ∧ w = w' := by
  obtain ⟨a, cap, rfl, _, hc⟩ := h
  have HC := hid hc
  have H5 := hid h5
  obtain ⟨N, hN⟩ : ∃ n, zs.length = n := ⟨_, rfl⟩
  have HN := hid hN
  rw [hN] at hl ⊢
  clear hc h5 hN
  go_enter Try.func15, Try.ntmps15
  go_wp2_with fail
  go_loop [3, 8] (fun s i => ∃ k : Nat, k ≤ N ∧ i = .int .i64 k ∧ s = .int .i64 (sumL (zs.take k))) (fun _ i => N - (intOf i).toNat)
  case atStart => exact ⟨0, Nat.zero_le _, rfl, rfl⟩
  case round =>
    obtain ⟨k, hk, rfl, rfl⟩ := hrel
    by_cases hlt : k < N
    · have hltI : (k : Int) < (N : Int) := by omega
      obtain ⟨ad, rfl, hcell⟩ := HC.out k (by rw [HN.out]; exact hlt)
      obtain ⟨b1, b2⟩ := suK_bd H5.out (k + 1) (by rw [HN.out]; omega)
      have hst := suK_step (zs := zs) (k := k) (by rw [HN.out]; exact hlt)
      obtain ⟨z, hz⟩ : ∃ z, zs.getD k 0 = z := ⟨_, rfl⟩
      rw [hz] at hcell hst
      obtain ⟨s, hs⟩ : ∃ s, sumL (zs.take k) = s := ⟨_, rfl⟩
      rw [hs] at hst ⊢
      have hsw := wrapQ (q := s + z) (by omega)
      have HST := hid hst
      clear hz hs hst b1 b2
      go_wp2_with fail
      go_round
      case rel => exact ⟨k + 1, by omega, by go_num, by rw [HST.out]⟩
      case measure => simp [intOf]; omega
    · have hke : k = N := by omega
      have e : sumL (zs.take k) = sumL zs := by rw [hke, ← HN.out, List.take_length]
      rw [e]
      go_wp2_with fail
      go_ret
      exact ⟨rfl, rfl⟩
theorem vSolves_yes (v : Value) (zs : List Int) (a b : Int) (w : World) (hs : Sol zs a b) (h : Ints w v zs) :
    Calls Try.prog 14 #[v, .int .i64 a, .int .i64 b] w fun e w' => e = .returned (.bool true) ∧ Later w w' := by
  have HI := hid (bool_as9 (o := some true) (z := true) (t := true) (by have h := implIsHurwitz_any v zs a b w h; rw [show isHuAns zs a b = some true by unfold isHuAns; rw [hs.given, hs.sol]; rfl] at h; exact h) rfl rfl)
  clear h hs
  go_enter Try.func14, Try.ntmps14
  go_wp2_with fail
  refine HI.out.mono ?_
  rintro e w1 ⟨rfl, hL⟩
  have HL := hid hL
  clear hL
  go_wp2_with fail
  go_ret
  exact ⟨rfl, HL.out⟩
end Go.Proofs.Ytdahhcigphhfdad
