/- Contracts of the program's SolvesMarkov. -/
import Derived.Test.YtjnhhjnfdaaaeabMkS
import Derived.BigQuiet
namespace Go.Proofs.Ytjnhhjnfdaaaeab
open Go.RowKit

theorem isCount_any (z : Int) (w : World) : Calls Try.prog 59 #[.int .i64 z] w fun e w' => e = .returned (.bool (within 1 1000000000 z)) ∧ w = w' := by
  by_cases h1 : 1 ≤ z
  · go_enter Try.func59, Try.ntmps59
    go_wp2
    go_ret
    exact ⟨ret_bool (by simp [within, h1]), rfl⟩
  · have hb : decide (1 ≤ z) = false := by simpa using h1
    go_enter Try.func59, Try.ntmps59
    go_wp2
    go_ret
    exact ⟨ret_bool (by symm; simp only [within, Bool.and_eq_false_iff, decide_eq_false_iff_not]; omega), rfl⟩
theorem areCounts1_any (z : Int) (w : World) : Calls Try.prog 160 #[.int .i64 z] w fun e w' => e = .returned (.bool (!within 1 1000000000 z)) ∧ w = w' := by
  go_enter Try.func160, Try.ntmps160
  go_wp2_with (first | (go_at_call 59; refine (isCount_any _ _).mono ?_; rintro e w' ⟨rfl, rfl⟩))
  go_ret
  exact ⟨rfl, rfl⟩

theorem any_take_succ {α : Type} (p : α → Bool) (zs : List α) (k : Nat) (h : k < zs.length) (ha : (zs.take k).any p = false) (hp : p zs[k] = false) : (zs.take (k + 1)).any p = false := by
  rw [List.take_succ_eq_append_getElem h, List.any_append, ha]; simp [hp]
theorem any_true_at {α : Type} (p : α → Bool) (zs : List α) (k : Nat) (h : k < zs.length) (hp : p zs[k] = true) : zs.any p = true := by
  rw [List.any_eq_true]; exact ⟨zs[k], List.getElem_mem h, hp⟩

set_option maxHeartbeats 400000 in
theorem indexFunc_any (v : Value) (zs : List Int) (F : Nat) (p : Int → Bool) (w : World) (eg : ∀ args w, (callFunc F args).run Try.prog w = .ok (.enter F args) w) (h : Ints w v zs)
    (hF : ∀ z w1, Calls Try.prog F #[.int .i64 z] w1 fun e w2 => e = .returned (.bool (p z)) ∧ w1 = w2) :
    Calls Try.prog 175 #[v, .func (.func F) #[] #[]] w fun e w' => (∃ r : Int, e = .returned (.int .i64 r) ∧ decide (0 ≤ r) = zs.any p) ∧ w = w' := by
  obtain ⟨a, cap, rfl, hl, hc⟩ := h
  have HC := hid hc; clear hc
  have HF := hid hF; clear hF
  go_enter Try.func175, Try.ntmps175
  go_wp2_with fail
  go_loop [8] (fun i => ∃ k : Nat, k ≤ zs.length ∧ i = .int .i64 k ∧ (zs.take k).any p = false) (fun i => zs.length - (intOf i).toNat)
  case atStart => exact ⟨0, Nat.zero_le _, rfl, rfl⟩
  case round =>
    obtain ⟨k, hk, rfl, hal⟩ := hrel
    have HA := hid hal; clear hal
    by_cases hlt : k < zs.length
    · obtain ⟨ad, rfl, hcell⟩ := HC.out k hlt
      rw [getD_at zs k hlt] at hcell
      cases hb : p zs[k]
      · have HB := hid hb; clear hb
        go_wp2_with fail
        refine (HF.out _ _).mono ?_
        rintro e w' ⟨rfl, rfl⟩
        rw [HB.out]
        go_wp2_with fail
        go_round
        case rel => exact ⟨k + 1, hlt, by go_num, any_take_succ _ zs k hlt HA.out HB.out⟩
        case measure => simp [intOf]; omega
      · have HB := hid hb; clear hb
        go_wp2_with fail
        refine (HF.out _ _).mono ?_
        rintro e w' ⟨rfl, rfl⟩
        rw [HB.out]
        go_wp2_with fail
        go_ret
        exact ⟨⟨_, rfl, by rw [any_true_at _ zs k hlt HB.out]; simp⟩, rfl⟩
    · go_wp2_with fail
      go_ret
      exact ⟨⟨_, rfl, by rw [← take_all zs k (by omega), HA.out]; rfl⟩, rfl⟩
theorem containsFunc_any (v : Value) (zs : List Int) (F : Nat) (p : Int → Bool) (w : World) (eg : ∀ args w, (callFunc F args).run Try.prog w = .ok (.enter F args) w) (h : Ints w v zs)
    (hF : ∀ z w1, Calls Try.prog F #[.int .i64 z] w1 fun e w2 => e = .returned (.bool (p z)) ∧ w1 = w2) :
    Calls Try.prog 159 #[v, .func (.func F) #[] #[]] w fun e w' => e = .returned (.bool (zs.any p)) ∧ w = w' := by
  have H := hid h
  clear h
  go_enter Try.func159, Try.ntmps159
  go_wp2_with fail
  refine (indexFunc_any v zs F p w eg H.out hF).mono ?_
  rintro e w' ⟨⟨r, rfl, hr⟩, rfl⟩
  go_wp2_with fail
  go_ret
  first | exact ⟨ret_bool hr, rfl⟩ | exact ⟨rfl, rfl⟩
theorem areCounts_as (v : Value) (zs : List Int) (b : Bool) (w : World) (hb : areCnt zs = b) (h : Ints w v zs) :
    Calls Try.prog 131 #[v] w fun e w' => e = .returned (.bool b) ∧ w = w' := by
  have H := hid h
  have HB := hid hb
  clear h hb
  go_enter Try.func131, Try.ntmps131
  go_wp2_with fail
  refine (containsFunc_any v zs 160 (fun z => !within 1 1000000000 z) w Try.call160 H.out areCounts1_any).mono ?_
  rintro e w' ⟨rfl, rfl⟩
  go_wp2_with fail
  go_ret
  exact ⟨ret_bool (by rw [← HB.out]; unfold areCnt; rw [List.not_any_eq_all_not]; simp), rfl⟩

set_option maxHeartbeats 1000000 in
theorem solves_any (x y z : Int) (w : World) (hx : 1 ≤ x ∧ x ≤ 1000000000) (hy : 1 ≤ y ∧ y ≤ 1000000000) (hz : 1 ≤ z ∧ z ≤ 1000000000) :
    Calls Try.prog 132 #[.agg #[.int .i64 x, .int .i64 y, .int .i64 z]] w fun e w' => e = .returned (.bool (solves3 x y z)) ∧ Later w w' := by
  obtain ⟨hx1, hx2⟩ := hx
  obtain ⟨hy1, hy2⟩ := hy
  obtain ⟨hz1, hz2⟩ := hz
  have a1 := mul_le18 hx1 hx2 hx1 hx2
  have a2 := mul_le18 hy1 hy2 hy1 hy2
  have a6 := mul_le18 hz1 hz2 hz1 hz2
  have a3 := mul_le18 hx1 hx2 hy1 hy2
  have a4 : 3 * x * y = 3 * (x * y) := by grind
  have a5 : 1 ≤ 3 * x * y ∧ 3 * x * y ≤ 3000000000000000000 := by omega
  obtain ⟨p1, p2⟩ := a1
  obtain ⟨p3, p4⟩ := a2
  obtain ⟨p5, p6⟩ := a5
  obtain ⟨p7, p8⟩ := a6
  have HS := hid (solves_impl x y z hz1)
  clear a3 a4
  have c0 : (w.alloc (.cells #[.int .i64 x, .int .i64 y, .int .i64 z] 59)).cell? ⟨w.heap.size, 0, none⟩ = some (.int .i64 x) := by simp [go_sem]
  have c1 : (w.alloc (.cells #[.int .i64 x, .int .i64 y, .int .i64 z] 59)).cell? ⟨w.heap.size, 1, none⟩ = some (.int .i64 y) := by simp [go_sem]
  have c2 : (w.alloc (.cells #[.int .i64 x, .int .i64 y, .int .i64 z] 59)).cell? ⟨w.heap.size, 2, none⟩ = some (.int .i64 z) := by simp [go_sem]
  have HL := hid (Later.alloc w (.cells #[.int .i64 x, .int .i64 y, .int .i64 z] 59))
  by_cases hr : (x * x + y * y + z * z) % z = 0
  · have hr' : ((x * x + y * y + z * z) % z == 0) = true := by simp [hr]
    have HR := hid hr
    have z0 : ¬ z = 0 := by omega
    have zb : (z == 0) = false := by simp; omega
    have q0 : (x * x + y * y + z * z).tmod z = 0 := by rw [Int.tmod_eq_emod_of_nonneg (by omega), hr]
    obtain ⟨q, hq0⟩ : ∃ q, q = (x * x + y * y + z * z) / z := ⟨_, rfl⟩
    have hqb : 0 ≤ q ∧ q ≤ x * x + y * y + z * z := by rw [hq0]; exact ⟨Int.ediv_nonneg (by omega) (by omega), Int.ediv_le_self _ (by omega)⟩
    have q1 : (x * x + y * y + z * z).tdiv z = q := by rw [hq0]; exact Int.tdiv_eq_ediv_of_nonneg (by omega)
    have qw : IntKind.i64.wrap q = q := by rw [IntWalk.i64_left]; exact IntWalk.wrap64_in _ (by omega)
    have HQ0 := hid hq0
    clear hq0 hqb
    clear hr
    go_enter Try.func132, Try.ntmps132
    go_wp2_with fail
    generalize w.alloc (.cells #[.int .i64 x, .int .i64 y, .int .i64 z] 59) = w1 at c0 c1 c2 HL ⊢
    go_quiet (fail)
    go_wp2_with fail
    go_ret
    refine ⟨ret_bool ?_, by first | exact HL.out | exact HL.out.trans (Later.drew _) | exact HL.out.trans (Later.drewN _ _)⟩
    have h2 := HS.out
    rw [← HQ0.out] at h2
    simp only [HR.out, true_and] at h2
    unfold solves3
    rw [Bool.eq_iff_iff, beq_iff_eq, decide_eq_true_iff]
    exact h2
  · have hr' : ((x * x + y * y + z * z) % z == 0) = false := beq_eq_false_iff_ne.2 hr
    have HR := hid hr
    have z0 : ¬ z = 0 := by omega
    have zb : (z == 0) = false := by simp; omega
    obtain ⟨r, hr0⟩ : ∃ r, r = (x * x + y * y + z * z) % z := ⟨_, rfl⟩
    have q0 : (x * x + y * y + z * z).tmod z = r := by rw [Int.tmod_eq_emod_of_nonneg (by omega), hr0]
    rw [← hr0] at hr'
    have HR0 := hid hr0
    clear hr0
    obtain ⟨q, hq0⟩ : ∃ q, q = (x * x + y * y + z * z) / z := ⟨_, rfl⟩
    have hqb : 0 ≤ q ∧ q ≤ x * x + y * y + z * z := by rw [hq0]; exact ⟨Int.ediv_nonneg (by omega) (by omega), Int.ediv_le_self _ (by omega)⟩
    have q1 : (x * x + y * y + z * z).tdiv z = q := by rw [hq0]; exact Int.tdiv_eq_ediv_of_nonneg (by omega)
    have qw : IntKind.i64.wrap q = q := by rw [IntWalk.i64_left]; exact IntWalk.wrap64_in _ (by omega)
    have HQ0 := hid hq0
    clear hq0 hqb
    clear hr
    go_enter Try.func132, Try.ntmps132
    go_wp2_with fail
    generalize w.alloc (.cells #[.int .i64 x, .int .i64 y, .int .i64 z] 59) = w1 at c0 c1 c2 HL ⊢
    go_quiet (fail)
    go_wp2_with fail
    go_ret
    refine ⟨ret_bool ?_, by first | exact HL.out | exact HL.out.trans (Later.drew _) | exact HL.out.trans (Later.drewN _ _)⟩
    have h2 := HS.out
    simp only [HR.out, false_and, false_iff] at h2
    unfold solves3
    rw [decide_eq_false h2]

set_option maxRecDepth 20000 in
set_option maxHeartbeats 1000000 in
theorem implSolvesMarkov_any (v : Value) (zs : List Int) (w : World) (h : Ints w v zs) :
    Calls Try.prog 95 #[v] w fun e w' => BoolAns w (solvesAns zs) e w' := by
  by_cases h3 : zs.length = 3
  · cases hcn : areCnt zs
    · have HA := hid (show solvesAns zs = none by unfold solvesAns; rw [if_neg (by simp [hcn])])
      have HC := hid hcn
      obtain ⟨a, cap, rfl, hl, _⟩ := id h
      have H := hid h
      have hn : ((zs.length : Int) != 3) = false := by simp [h3]
      clear h hcn h3
      go_enter Try.func95, Try.ntmps95
      go_wp2_with fail
      refine (areCounts_as _ zs false _ HC.out H.out).mono ?_
      rintro e w' ⟨rfl, rfl⟩
      go_wp2_with fail
      go_ret2
      exact ⟨by rw [HA.out]; rfl, Later.refl _⟩
    · obtain ⟨x, y, z, ad, cap, rfl, rfl, c0, c1, c2⟩ := h.three h3
      obtain ⟨hx, hy, hz⟩ := areCnt3 hcn
      have HA := hid (show solvesAns [x, y, z] = some (solves3 x y z) by unfold solvesAns; rw [if_pos ⟨rfl, hcn⟩]; rfl)
      have ha : ∀ w, (Instr.arrayAt 59 (.slice (some ad) 3 cap)).run Try.prog w = .ok (.pointer (some ad)) w := fun w => run_arrayAt w _ _ _ _ _ _ Try.underlying59 (by omega)
      have HC := hid hcn
      have H := hid h
      clear h hcn h3
      go_enter Try.func95, Try.ntmps95
      go_wp2_with fail
      refine (areCounts_as (.slice (some ad) 3 cap) [x, y, z] true _ HC.out H.out).mono ?_
      rintro e w' ⟨rfl, rfl⟩
      go_wp2_with fail
      refine (solves_any x y z _ hx hy hz).mono ?_
      rintro e w2 ⟨rfl, hL⟩
      have HL := hid hL
      clear hL
      go_wp2_with fail
      go_ret2
      exact ⟨by rw [HA.out]; rfl, HL.out⟩
  · have HA := hid (show solvesAns zs = none by unfold solvesAns; rw [if_neg (by simp [h3])])
    obtain ⟨a, cap, rfl, hl, _⟩ := id h
    have hn : ((zs.length : Int) != 3) = true := by simp; omega
    clear h h3
    go_enter Try.func95, Try.ntmps95
    go_wp2_with fail
    go_ret2
    exact ⟨by rw [HA.out]; rfl, Later.refl _⟩
end Go.Proofs.Ytjnhhjnfdaaaeab
