/- Equations of Hurwitz: contracts of the program's tests: isFactor, isRest, areFallingParts, parts, factorFor. -/
import Derived.Test.YtoaopmafokoaoaaHuS
namespace Go.Proofs.Ytoaopmafokoaoaa
open Go.RowKit

theorem isFactor_any (a : Int) (w : World) : Calls Try.prog 75 #[.int .i64 a] w fun e w' => e = .returned (.bool (within 1 20 a)) ∧ w = w' := by
  by_cases h1 : 1 ≤ a
  · have hb : decide (1 ≤ a) = true := decide_eq_true h1
    go_enter Try.func75, Try.ntmps75
    go_wp2_with fail
    go_ret
    exact ⟨ret_bool (by simp [within, h1]), rfl⟩
  · have hb : decide (1 ≤ a) = false := decide_eq_false h1
    go_enter Try.func75, Try.ntmps75
    go_wp2_with fail
    go_ret
    exact ⟨ret_bool (by symm; simp only [within, Bool.and_eq_false_iff, decide_eq_false_iff_not]; omega), rfl⟩
theorem isRest_any (b : Int) (w : World) : Calls Try.prog 71 #[.int .i64 b] w fun e w' => e = .returned (.bool (within (-50) 50 b)) ∧ w = w' := by
  by_cases h1 : -50 ≤ b
  · have hb : decide (-50 ≤ b) = true := decide_eq_true h1
    go_enter Try.func71, Try.ntmps71
    go_wp2_with fail
    go_ret
    exact ⟨ret_bool (by simp [within, h1]), rfl⟩
  · have hb : decide (-50 ≤ b) = false := decide_eq_false h1
    go_enter Try.func71, Try.ntmps71
    go_wp2_with fail
    go_ret
    exact ⟨ret_bool (by symm; simp only [within, Bool.and_eq_false_iff, decide_eq_false_iff_not]; omega), rfl⟩
theorem isFactor_as (a : Int) (o : Bool) (w : World) (h : within 1 20 a = o) : Calls Try.prog 75 #[.int .i64 a] w fun e w' => e = .returned (.bool o) ∧ w = w' := by
  subst h; exact isFactor_any a w
theorem isRest_as (b : Int) (o : Bool) (w : World) (h : within (-50) 50 b = o) : Calls Try.prog 71 #[.int .i64 b] w fun e w' => e = .returned (.bool o) ∧ w = w' := by
  subst h; exact isRest_any b w
theorem isPartCount_any (n : Int) (w : World) : Calls Try.prog 115 #[.int .i64 n] w fun e w' => e = .returned (.bool (within 3 4 n)) ∧ w = w' := by
  by_cases h1 : n = 3
  · have hb : (n == 3) = true := by simp [h1]
    have H := hid h1
    clear h1
    go_enter Try.func115, Try.ntmps115
    go_wp2_with fail
    go_ret
    exact ⟨ret_bool (by simp [within, H.out]), rfl⟩
  · have hb : (n == 3) = false := by simp [h1]
    have H := hid h1
    clear h1
    go_enter Try.func115, Try.ntmps115
    go_wp2_with fail
    go_ret
    exact ⟨ret_bool (by have := H.out; rw [Bool.eq_iff_iff]; simp only [within, beq_iff_eq, Bool.and_eq_true, decide_eq_true_eq]; omega), rfl⟩

theorem drop_cons' (zs : List Int) (k : Nat) (h : k < zs.length) : zs.drop k = zs[k] :: zs.drop (k + 1) := List.drop_eq_getElem_cons h
set_option maxHeartbeats 1000000 in
theorem areFallingParts_any (v : Value) (zs : List Int) (w : World) (h : Ints w v zs) :
    Calls Try.prog 101 #[v] w fun e w' => e = .returned (.bool (lenB zs && fallB 100000 zs)) ∧ w = w' := by
  obtain ⟨p, cap, rfl, hl, hc⟩ := h
  have HC := hid hc
  clear hc
  go_enter Try.func101, Try.ntmps101
  go_wp2_with fail
  go_loop [3, 8] (fun s i => ∃ (k : Nat) (m : Int), k ≤ zs.length ∧ i = .int .i64 k ∧ s = .int .i64 m ∧ (1 ≤ m ∧ m ≤ 100000) ∧ fallB 100000 zs = fallB m (zs.drop k)) (fun _ i => zs.length - (intOf i).toNat)
  case atStart => exact ⟨0, 100000, Nat.zero_le _, rfl, rfl, by omega, rfl⟩
  case round =>
    obtain ⟨k, m, hk, rfl, rfl, ⟨hm1, hm2⟩, hf⟩ := hrel
    have HF := hid hf
    clear hf
    by_cases hlt : k < zs.length
    · obtain ⟨ad, rfl, hcell⟩ := HC.out k hlt
      simp only [getD_at zs k hlt] at hcell
      have HS := hid (show fallB 100000 zs = (decide (1 ≤ zs[k]) && decide (zs[k] ≤ m) && fallB zs[k] (zs.drop (k + 1))) by rw [HF.out, drop_cons' zs k hlt]; rfl)
      by_cases h1 : zs[k] < 1
      · go_wp2_with fail
        go_ret
        exact ⟨ret_bool (by rw [HS.out, decide_eq_false (show ¬ 1 ≤ zs[k] by omega)]; simp), rfl⟩
      · by_cases h2 : m < zs[k]
        · go_wp2_with fail
          go_ret
          exact ⟨ret_bool (by rw [HS.out, decide_eq_false (show ¬ zs[k] ≤ m by omega)]; simp), rfl⟩
        · go_wp2_with fail
          go_round
          case rel => exact ⟨k + 1, zs[k], hlt, by go_num, rfl, by omega, by rw [HS.out, decide_eq_true (show 1 ≤ zs[k] by omega), decide_eq_true (show zs[k] ≤ m by omega)]; simp⟩
          case measure => simp [intOf]; omega
    · have HS := hid (show fallB 100000 zs = true by rw [HF.out, List.drop_eq_nil_of_le (by omega)]; rfl)
      go_wp2_with fail
      refine (isPartCount_any _ _).mono ?_
      rintro e w' ⟨rfl, rfl⟩
      go_wp2_with fail
      go_ret
      exact ⟨ret_bool (by rw [HS.out, Bool.and_true]; rfl), rfl⟩
theorem areFallingParts_as (v : Value) (zs : List Int) (o : Bool) (w : World) (ho : (lenB zs && fallB 100000 zs) = o) (h : Ints w v zs) :
    Calls Try.prog 101 #[v] w fun e w' => e = .returned (.bool o) ∧ w = w' := by
  subst ho; exact areFallingParts_any v zs w h

/-! ### numbers in an array of four -/

def qL (x y z t : Int) : List Int := if t = 0 then [x, y, z] else [x, y, z, t]
def qN (t : Int) : Nat := if t = 0 then 3 else 4
structure Q4 (x y z t : Int) : Prop where
  hx : 1 ≤ x ∧ x ≤ 100000
  hy : 1 ≤ y ∧ y ≤ 100000
  hz : 1 ≤ z ∧ z ≤ 100000
  ht : 0 ≤ t ∧ t ≤ 100000
theorem qL_len (x y z t : Int) : (qL x y z t).length = qN t := by unfold qL qN; split <;> rfl
theorem qN_bd (t : Int) : 3 ≤ qN t ∧ qN t ≤ 4 := by unfold qN; split <;> omega
theorem qN_or (t : Int) : qN t = 3 ∨ qN t = 4 := by unfold qN; split <;> omega
theorem Q4.in5 {x y z t : Int} (h : Q4 x y z t) : In5 (qL x y z t) := by
  obtain ⟨hx, hy, hz, ht⟩ := h
  unfold qL
  split <;> (intro u hu; simp at hu; omega)
theorem q4_of {zs : List Int} (h5 : In5 zs) (hl : zs.length = 3 ∨ zs.length = 4) : ∃ x y z t, zs = qL x y z t ∧ Q4 x y z t := by
  match zs, hl with
  | [x, y, z], _ => exact ⟨x, y, z, 0, by simp [qL], ⟨h5 x (by simp), h5 y (by simp), h5 z (by simp), by omega⟩⟩
  | [x, y, z, t], _ =>
    have ht := h5 t (by simp)
    exact ⟨x, y, z, t, by unfold qL; rw [if_neg (by omega)], ⟨h5 x (by simp), h5 y (by simp), h5 z (by simp), by omega⟩⟩
theorem qL_sqs (x y z t : Int) : sqs (qL x y z t) = x * x + y * y + z * z + t * t := by
  unfold qL
  split
  · rename_i h; subst h; simp [sqs]; omega
  · simp [sqs]; omega
theorem qL_getD (x y z t : Int) : (qL x y z t).getD 0 0 = x ∧ (qL x y z t).getD 1 0 = y ∧ (qL x y z t).getD 2 0 = z ∧ (qL x y z t).getD 3 0 = t := by
  unfold qL
  split
  · rename_i h; simp [h]
  · simp
/-- Four cells of block B. -/
structure Arr4 (w : World) (B : Nat) (x y z t : Int) : Prop where
  c0 : w.cell? ⟨B, 0, none⟩ = some (.int .i64 x)
  c1 : w.cell? ⟨B, 1, none⟩ = some (.int .i64 y)
  c2 : w.cell? ⟨B, 2, none⟩ = some (.int .i64 z)
  c3 : w.cell? ⟨B, 3, none⟩ = some (.int .i64 t)
theorem Arr4.later {w w' : World} {B : Nat} {x y z t : Int} (h : Arr4 w B x y z t) (k : Later w w') : Arr4 w' B x y z t :=
  ⟨k.cell h.c0, k.cell h.c1, k.cell h.c2, k.cell h.c3⟩
theorem Arr4.ints {w : World} {B : Nat} {x y z t : Int} (h : Arr4 w B x y z t) : Ints w (.slice (some ⟨B, 0, none⟩) (qN t) 4) (qL x y z t) := by
  refine ⟨_, 4, by rw [qL_len], by rw [qL_len]; have := qN_bd t; omega, fun i hi => ⟨_, rfl, ?_⟩⟩
  rw [qL_len] at hi
  have hb := qN_bd t
  have hg := qL_getD x y z t
  rw [addr_add0]
  have h4 : i = 0 ∨ i = 1 ∨ i = 2 ∨ i = 3 := by omega
  rcases h4 with rfl | rfl | rfl | rfl
  · rw [hg.1]; exact h.c0
  · rw [hg.2.1]; exact h.c1
  · rw [hg.2.2.1]; exact h.c2
  · rw [hg.2.2.2]; exact h.c3
theorem arr4_alloc (w : World) (x y z t : Int) : Arr4 (w.alloc (.cells #[.int .i64 x, .int .i64 y, .int .i64 z, .int .i64 t] 69)) w.heap.size x y z t :=
  ⟨by simp [go_sem], by simp [go_sem], by simp [go_sem], by simp [go_sem]⟩

set_option maxRecDepth 20000 in
theorem parts_any (x y z t : Int) (w : World) :
    Calls Try.prog 117 #[.agg #[.int .i64 x, .int .i64 y, .int .i64 z, .int .i64 t]] w fun e w' => e = .returned (.int .i64 (qN t)) ∧ Later w w' := by
  have HL := hid (Later.alloc w (.cells #[.int .i64 x, .int .i64 y, .int .i64 z, .int .i64 t] 69))
  obtain ⟨c0, c1, c2, c3⟩ := arr4_alloc w x y z t
  by_cases h : t = 0
  · have hb : (t == 0) = true := by simp [h]
    have H := hid (show qN t = 3 from if_pos h)
    clear h
    go_enter Try.func117, Try.ntmps117
    go_wp2_with fail
    go_ret
    exact ⟨by rw [H.out]; rfl, HL.out⟩
  · have hb : (t == 0) = false := by simp [h]
    have H := hid (show qN t = 4 from if_neg h)
    clear h
    go_enter Try.func117, Try.ntmps117
    go_wp2_with fail
    go_ret
    exact ⟨by rw [H.out]; rfl, HL.out⟩

theorem tdiv_le {f z m : Int} (hz : 1 ≤ z) (h : -m ≤ f ∧ f ≤ m) : -m ≤ f.tdiv z ∧ f.tdiv z ≤ m := by
  rcases Int.le_total 0 f with h0 | h0
  · rw [Int.tdiv_eq_ediv_of_nonneg h0]
    have h1 := Int.ediv_nonneg h0 (show 0 ≤ z by omega)
    have h2 := Int.ediv_le_self z h0
    omega
  · have e : f.tdiv z = -((-f).tdiv z) := by rw [Int.neg_tdiv]; omega
    rw [e, Int.tdiv_eq_ediv_of_nonneg (show 0 ≤ -f by omega)]
    have h1 := Int.ediv_nonneg (show 0 ≤ -f by omega) (show 0 ≤ z by omega)
    have h2 := Int.ediv_le_self z (show 0 ≤ -f by omega)
    omega
set_option maxRecDepth 20000 in
set_option maxHeartbeats 4000000 in
theorem factorFor_any (x y z t b : Int) (w : World) (hq : Q4 x y z t) (hb : -50 ≤ b ∧ b ≤ 50) :
    Calls Try.prog 74 #[.agg #[.int .i64 x, .int .i64 y, .int .i64 z, .int .i64 t], .int .i64 b] w fun e w' => e = .returned (.int .i64 (facL (sqs (qL x y z t) - b) (qL x y z t))) ∧ Later w w' := by
  have HQ := hid hq
  have HL := hid (Later.alloc w (.cells #[.int .i64 x, .int .i64 y, .int .i64 z, .int .i64 t] 69))
  have HA := hid (arr4_alloc w x y z t)
  obtain ⟨c0, c1, c2, c3⟩ := arr4_alloc w x y z t
  obtain ⟨hb1, hb2⟩ := hb
  obtain ⟨x1, x2⟩ := sq_bd hq.hx
  obtain ⟨y1, y2⟩ := sq_bd hq.hy
  obtain ⟨z1, z2⟩ := sq_bd hq.hz
  have t12 : 0 ≤ t * t ∧ t * t ≤ 10000000000 := ⟨Int.mul_nonneg hq.ht.1 hq.ht.1, by have := Int.mul_le_mul hq.ht.2 hq.ht.2 hq.ht.1 (by omega); omega⟩
  obtain ⟨t1, t2⟩ := t12
  clear hq
  have j0 : ∀ w, (Instr.index 69 (.agg #[.int .i64 x, .int .i64 y, .int .i64 z, .int .i64 t]) (.int .i64 0)).run Try.prog w = .ok (.int .i64 x) w := fun _ => by kernel_rfl
  have j1 : ∀ w, (Instr.index 69 (.agg #[.int .i64 x, .int .i64 y, .int .i64 z, .int .i64 t]) (.int .i64 1)).run Try.prog w = .ok (.int .i64 y) w := fun _ => by kernel_rfl
  have j2 : ∀ w, (Instr.index 69 (.agg #[.int .i64 x, .int .i64 y, .int .i64 z, .int .i64 t]) (.int .i64 2)).run Try.prog w = .ok (.int .i64 z) w := fun _ => by kernel_rfl
  have j3 : ∀ w, (Instr.index 69 (.agg #[.int .i64 x, .int .i64 y, .int .i64 z, .int .i64 t]) (.int .i64 3)).run Try.prog w = .ok (.int .i64 t) w := fun _ => by kernel_rfl
  go_enter Try.func74, Try.ntmps74
  go_wp2_with fail
  generalize w.alloc (.cells #[.int .i64 x, .int .i64 y, .int .i64 z, .int .i64 t] 69) = w1 at c0 c1 c2 c3 HL HA ⊢
  go_loop [5, 13] (fun f i => (i = .int .i64 0 ∧ f = .int .i64 (-b)) ∨ (i = .int .i64 1 ∧ f = .int .i64 (-b + x * x)) ∨ (i = .int .i64 2 ∧ f = .int .i64 (-b + x * x + y * y)) ∨ (i = .int .i64 3 ∧ f = .int .i64 (-b + x * x + y * y + z * z)) ∨ (i = .int .i64 4 ∧ f = .int .i64 (-b + x * x + y * y + z * z + t * t))) (fun _ i => 4 - (intOf i).toNat)
  case atStart => exact .inl ⟨rfl, rfl⟩
  case round =>
    rcases hrel with ⟨rfl, rfl⟩ | ⟨rfl, rfl⟩ | ⟨rfl, rfl⟩ | ⟨rfl, rfl⟩ | ⟨rfl, rfl⟩
    · go_wp2_with fail
      go_round
      case rel => exact .inr (.inl ⟨rfl, rfl⟩)
      case measure => simp [intOf]
    · go_wp2_with fail
      go_round
      case rel => exact .inr (.inr (.inl ⟨rfl, rfl⟩))
      case measure => simp [intOf]
    · go_wp2_with fail
      go_round
      case rel => exact .inr (.inr (.inr (.inl ⟨rfl, rfl⟩)))
      case measure => simp [intOf]
    · go_wp2_with fail
      go_round
      case rel => exact .inr (.inr (.inr (.inr ⟨rfl, rfl⟩)))
      case measure => simp [intOf]
    · go_wp2_with fail
      refine (parts_any x y z t _).mono ?_
      rintro e w2 ⟨rfl, hL2⟩
      have HI := hid ((HA.out.later hL2).ints)
      have HL2 := hid (HL.out.trans hL2)
      have hn3 : (qN t : Int) ≤ 4 := by have := qN_bd t; omega
      have hn0 : (0 : Int) ≤ (qN t : Int) := by omega
      have HF := hid (show -b + x * x + y * y + z * z + t * t = sqs (qL x y z t) - b by rw [qL_sqs]; omega)
      have H5 := hid HQ.out.in5
      have HN := hid (qL_len x y z t)
      have hq0 := (sqs_bd H5.out).1
      have hq1 : sqs (qL x y z t) ≤ 40000000000 := by have := (sqs_bd H5.out).2; have := HN.out; omega
      clear c0 c1 c2 c3 hL2 HL HA j0 j1 j2 j3 x1 x2 y1 y2 z1 z2 t1 t2
      go_wp2_with fail
      rw [HF.out]
      obtain ⟨zs, hzs⟩ : ∃ zs, qL x y z t = zs := ⟨_, rfl⟩
      rw [hzs] at HI H5 HN hq0 hq1 ⊢
      have HZ := hid hzs
      clear hzs HF
      generalize qN t = n at HI HN hn3 hn0 ⊢
      go_loop [5, 26] (fun f i => ∃ (k : Nat) (g : Int), k ≤ n ∧ i = .int .i64 k ∧ f = .int .i64 g ∧ (-50000000000 ≤ g ∧ g ≤ 50000000000) ∧ facL (sqs zs - b) zs = facL g (zs.drop k)) (fun _ i => n - (intOf i).toNat)
      case atStart => exact ⟨0, sqs zs - b, Nat.zero_le _, rfl, rfl, by omega, rfl⟩
      case round =>
        obtain ⟨k, g, hk, rfl, rfl, hg, hf⟩ := hrel
        have HFK := hid hf
        clear hf
        by_cases hlt : k < n
        · have hlz : k < zs.length := by have := HN.out; omega
          obtain ⟨p, cap, e1, _, hc⟩ := HI.out
          simp only [Value.slice.injEq] at e1
          obtain ⟨rfl, _, rfl⟩ := e1
          obtain ⟨ad, e2, hcell⟩ := hc k hlz
          simp only [Option.some.injEq] at e2
          subst e2
          simp only [getD_at zs k hlz] at hcell
          rw [addr_add0] at hcell
          obtain ⟨u1, u2⟩ := getElem_in5 H5.out k hlz
          have HS := hid (show facL (sqs zs - b) zs = facL g (zs[k] :: zs.drop (k + 1)) by rw [HFK.out, drop_cons' zs k hlz])
          have hdq := tdiv_le u1 hg
          obtain ⟨u, hu⟩ : ∃ u, zs[k] = u := ⟨_, rfl⟩
          rw [hu] at hcell u1 u2 HS hdq
          obtain ⟨q, hq⟩ : ∃ q, g.tdiv u = q := ⟨_, rfl⟩
          rw [hq] at hdq
          obtain ⟨r, hr⟩ : ∃ r, g.tmod u = r := ⟨_, rfl⟩
          have hrb : -100000 ≤ r ∧ r ≤ 100000 := by
            have h1 := Int.tmod_lt_of_pos g (show 0 < u by omega)
            have h2 := Int.lt_tmod_of_pos g (show 0 < u by omega)
            omega
          have qw : IntKind.i64.wrap q = q := by rw [IntWalk.i64_left]; exact IntWalk.wrap64_in _ (by omega)
          have rw' : IntKind.i64.wrap r = r := by rw [IntWalk.i64_left]; exact IntWalk.wrap64_in _ (by omega)
          have z0 : ¬ u = 0 := by omega
          have zb : (u == 0) = false := by simp; omega
          have ub1 : 1 ≤ u := u1
          by_cases hr0 : r = 0
          · have rb : (r != 0) = false := by simp [hr0]
            have HS2 := hid (show facL (sqs zs - b) zs = facL q (zs.drop (k + 1)) by rw [HS.out, facL, hr, hq, if_pos hr0])
            clear hr0 hu hc HS HFK
            go_wp2_with fail
            go_round
            case rel => exact ⟨k + 1, q, hlt, by go_num, rfl, hdq, HS2.out⟩
            case measure => simp [intOf]; omega
          · have rb : (r != 0) = true := by simp [hr0]
            have HS2 := hid (show facL (sqs zs - b) zs = 0 by rw [HS.out, facL, hr, if_neg hr0])
            clear hr0 hu hc HS HFK
            go_wp2_with fail
            go_ret
            exact ⟨ret_int (by rw [HZ.out, HS2.out]), HL2.out⟩
        · have HS2 := hid (show facL (sqs zs - b) zs = g by rw [HFK.out, List.drop_eq_nil_of_le (by have := HN.out; omega)]; rfl)
          go_wp2_with fail
          go_ret
          exact ⟨ret_int (by rw [HZ.out, HS2.out]), HL2.out⟩
end Go.Proofs.Ytoaopmafokoaoaa
