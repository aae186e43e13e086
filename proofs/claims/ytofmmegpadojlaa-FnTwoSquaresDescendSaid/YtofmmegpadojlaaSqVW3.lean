/- SqT3, SqV3, SqW3: in one text. -/
import Derived.Test.YtofmmegpadojlaaSqT
import Derived.Deep.QuietTactic
import Derived.BigQuiet
import Derived.Test.YtofmmegpadojlaaSqX
namespace Go.Proofs.Ytofmmegpadojlaa
open Go.RowKit

open Go.RowKit Go.Shelf

attribute [local go_sem] Oper.semAt_some in
set_option maxRecDepth 100000 in
set_option maxHeartbeats 2000000 in
theorem each3_3 {J : (Nat → Prop) → List (List Int) → World → Prop} {Jx : List (List Int) → World → Prop} (hJ : Carr J) {l : Nat} {L : List (List Int)} (hY : Yields l L J Jx) (x0 x1 x2 : Int)
    (P : Nat → Prop) (pre : List (List Int)) (rest most : Nat) (W : World) (h : J P pre W) (hP : ∀ b, P b → b < W.heap.size) (hL : pre ++ [[x0, x1, x2]] <+: L) :
    Calls Try.prog 142 #[.agg #[.int .i64 x0, .int .i64 x1, .int .i64 x2], .int .i64 3, .int .i64 rest, .int .i64 most, .func (.yield l) #[] #[]] W fun e W' => Went J Jx P pre [[x0, x1, x2]] W e W' := by
  have hY1 := hY 5 _ pre [x0, x1, x2] _ (hJ.new P pre W #[.int .i64 x0, .int .i64 x1, .int .i64 x2] 100 h) hL
  have HB := hid (SBox.new W [x0, x1, x2] #[.int .i64 x0, .int .i64 x1, .int .i64 x2] 100 rfl)
  have HK := hid (fun b (hb : P b) => Below.heap_alloc W (.cells #[.int .i64 x0, .int .i64 x1, .int .i64 x2] 100) b (hP b hb))
  have c0 := (HB.out 0 x0 rfl).1
  have c1 := (HB.out 1 x1 rfl).1
  have c2 := (HB.out 2 x2 rfl).1
  refine (callsIn_wide (n := 6)).1 ?_
  refine callsIn_of_wp Try.func142 rfl trivial ?_ rfl
  simp only [Try.ntmps142, List.size_toArray, List.length_cons, List.length_nil, Nat.reduceAdd, Nat.reduceSub, Array.replicate_succ, Array.replicate_zero, List.push_toArray, List.append_toArray, List.nil_append, List.cons_append]
  obtain ⟨fn, tmps, assign, body, hy, hR⟩ := hY1
  simp only [encV, List.map_cons, List.map_nil] at hy
  have HR := hid hR
  clear hR
  gi_wp2_with ((try refine ⟨fun _ => trivial, ?_⟩); refine HR.out.mono ?_; rintro e W2 (⟨rfl, hJ2, hk2⟩ | ⟨rfl, hx2⟩))
  · go_ret
    exact .inl ⟨rfl, hJ.weak _ _ _ _ hJ2 (fun b hb => .inl hb), fun b hb => (hk2 b (.inl hb)).trans (HK.out b hb)⟩
  · go_ret
    exact .inr ⟨rfl, _, List.prefix_refl _, hx2⟩

set_option maxRecDepth 20000 in
set_option maxHeartbeats 4000000 in
theorem each3_2 {J : (Nat → Prop) → List (List Int) → World → Prop} {Jx : List (List Int) → World → Prop} (hJ : Carr J) {l : Nat} {L : List (List Int)} (hY : Yields l L J Jx) (x0 x1 : Int)
    (P : Nat → Prop) (pre : List (List Int)) (rest most : Nat) (W : World) (h : J P pre W) (hrest : rest ≤ 1000000) (hmost : most ≤ 1000000) (hP : ∀ b, P b → b < W.heap.size) (hL : pre ++ (Sq.sqL 1 rest most).map ([x0, x1] ++ ·) <+: L) :
    Calls Try.prog 142 #[.agg #[.int .i64 x0, .int .i64 x1, .int .i64 0], .int .i64 2, .int .i64 rest, .int .i64 most, .func (.yield l) #[] #[]] W fun e W' => Went J Jx P pre ((Sq.sqL 1 rest most).map ([x0, x1] ++ ·)) W e W' := by
  rw [← lpM_all] at hL ⊢
  have HRT := hid (fun w => rootOf9_any rest w hrest)
  have hrr := rootN_le hrest
  obtain ⟨X, hX⟩ : ∃ X, min most (rootN rest) = X := ⟨_, rfl⟩
  rw [hX] at hL ⊢
  have hX3 : X ≤ 1000 := by omega
  have HXR := hid (show X * X ≤ rest by
    have := Nat.mul_le_mul (show X ≤ rootN rest by omega) (show X ≤ rootN rest by omega)
    have := (rootN_spec rest).1; omega)
  obtain ⟨Z, hZ⟩ : ∃ Z, lpM [x0, x1] 0 rest (X + 1) = Z := ⟨_, rfl⟩
  rw [hZ] at hL ⊢
  have HZ0 := hid hZ
  have HL := hid hL
  have HP := hid hP
  have HJ1 := hid (hJ.new P pre W #[.int .i64 x0, .int .i64 x1, .int .i64 0] 100 h)
  have HB0 := hid (SBox.new W [x0, x1, 0] #[.int .i64 x0, .int .i64 x1, .int .i64 0] 100 rfl)
  have HK0 := hid (fun b (hb : P b) => Below.heap_alloc W (.cells #[.int .i64 x0, .int .i64 x1, .int .i64 0] 100) b (hP b hb))
  have c0 := (HB0.out 0 x0 rfl).1
  have c1 := (HB0.out 1 x1 rfl).1
  have c2 := (HB0.out 2 0 rfl).1
  have HB0s := hid (show (W.alloc (.cells #[.int .i64 x0, .int .i64 x1, .int .i64 0] 100)).heap.size = W.heap.size + 1 by simp)
  obtain ⟨R, hR⟩ : ∃ R, rootN rest = R := ⟨_, rfl⟩
  rw [hR] at HRT hX hrr
  clear h hP hL hZ hR
  have key : (X = R ∧ (R : Int) ≤ (most : Int)) ∨ (X = most ∧ ¬ (R : Int) ≤ (most : Int)) := by omega
  clear hX
  rcases key with ⟨hXe, hle0⟩ | ⟨hXe, hle0⟩
  · subst hXe
    go_enter Try.func142, Try.ntmps142
    go_wp2_with (go_at_call 143; refine (HRT.out _).mono ?_; rintro e w2 ⟨rfl, rfl⟩)
    clear c0 c1 c2
    obtain ⟨B, hB⟩ : ∃ B, W.heap.size = B := ⟨_, rfl⟩
    rw [hB] at HB0 HB0s ⊢
    have HBB := hid hB
    clear hB
    go_loopw [14] (fun o wr => ∃ (y : Nat) (D : List (List Int)) (z : Int), y ≤ X + 1 ∧ o = .int .i64 ((y : Int) - 1) ∧ J (fun b => P b ∨ b = B) (pre ++ D) wr ∧ D ++ lpM [x0, x1] 0 rest y = Z ∧ SBox wr B [x0, x1, z] ∧ B < wr.heap.size ∧ ∀ b, P b → wr.heap[b]? = W.heap[b]?) (fun o _ => (intOf o + 1).toNat)
    case atStart => exact ⟨X + 1, [], 0, Nat.le_refl _, by simp, by simpa [HBB.out] using HJ1.out, by simpa using HZ0.out, HB0.out, by rw [HB0s.out]; omega, HK0.out⟩
    case round =>
      obtain ⟨y, D, z, hy, rfl, hJr, hDr, hBr, hBs, hKr⟩ := hrel
      have HJr := hid hJr
      have HDr := hid hDr
      have HBr := hid hBr
      have HBs := hid hBs
      have HKr := hid hKr
      clear hJr hDr hBr hBs hKr
      by_cases h0 : y = 0
      · subst h0
        have HN := hid (show D = Z by rw [← HDr.out]; simp [lpM, lpY])
        go_wp2_with fail
        go_ret
        exact .inl ⟨rfl, by rw [← HN.out]; exact hJ.weak _ _ _ _ HJr.out (fun b hb => .inl hb), HKr.out⟩
      · obtain ⟨x, rfl⟩ : ∃ x, y = x + 1 := ⟨y - 1, by omega⟩
        rw [show ((x + 1 : Nat) : Int) - 1 = (x : Int) by omega]
        have hxX : x ≤ X := by omega
        have hxx : 0 ≤ (x : Int) * (x : Int) ∧ (x : Int) * (x : Int) ≤ 1000000 := by
          have := Nat.mul_le_mul (show x ≤ 1000 by omega) (show x ≤ 1000 by omega)
          rw [← Int.natCast_mul]; omega
        have hkx : 1 * (x : Int) * (x : Int) = 1 * ((x : Int) * (x : Int)) := Int.mul_assoc _ _ _
        have hkxx : 0 ≤ 1 * (x : Int) * (x : Int) ∧ 1 * (x : Int) * (x : Int) ≤ 4000000 := by omega
        by_cases hst : (rest : Int) ≤ 1 * (x : Int) * (x : Int)
        · have HST := hid (show sqStop 0 rest x = false from decide_eq_false (by
            have h3 : ((0 + 1) * x * x : Nat) = 1 * (x * x) := by rw [Nat.mul_assoc]
            rw [h3]
            rw [hkx, ← Int.natCast_mul] at hst; omega))
          have hxr : x * x ≤ rest := by
            have h1 := Nat.mul_le_mul hxX hxX
            have h2 := HXR.out
            omega
          obtain ⟨m, hm⟩ : ∃ m, rest - x * x = m := ⟨_, rfl⟩
          have hnx : (rest : Int) - (x : Int) * (x : Int) = (m : Int) := by rw [← Int.natCast_mul]; omega
          have hm6 : m ≤ 1000000 := by omega
          have hrx : rest - x * x = 0 := by rw [hkx, ← Int.natCast_mul] at hst; omega
          have HZ := hid (show lpM [x0, x1] 0 rest (x + 1) = [[x0, x1, (x : Int)]] ++ lpM [x0, x1] 0 rest x by rw [lpM_go HST.out, hrx]; rfl)
          have c2 := HBr.out 2 z rfl
          have HB2 := hid (HBr.out.set 2 (x : Int))
          have HJ2 := hid (hJ.set _ _ _ B 2 (.int .i64 (x : Int)) HJr.out (.inr rfl))
          have HS2 := hid (show (wr.setCell ⟨B, 2, none⟩ (.int .i64 (x : Int))).heap.size = wr.heap.size by simp)
          have HK2 := hid (fun b (hb : P b) => (heap_setCell_other wr ⟨B, 2, none⟩ b (.int .i64 (x : Int)) (by have h1 := HP.out b hb; have h2 := HBB.out; simp only; omega)).trans (HKr.out b hb))
          have HC := hid (each3_3 hJ hY x0 x1 x (fun b => P b ∨ b = B) (pre ++ D) m x _ HJ2.out (by
            intro b hb
            rw [HS2.out]
            rcases hb with hb | rfl
            · have h1 := HP.out b hb; have h2 := HBs.out; have h3 := HBB.out; omega
            · exact HBs.out) (by
            have h1 := HL.out
            rw [← HDr.out, HZ.out] at h1
            exact pre_part h1))
          obtain ⟨cc2, ff2⟩ := c2
          have d0 := (HB2.out 0 x0 rfl).1
          have d1 := (HB2.out 1 x1 rfl).1
          have d2 := (HB2.out 2 (x : Int) rfl).1
          clear hm HST
          go_wp2_with (go_at_call 142; refine HC.out.mono ?_; rintro e w3 (⟨rfl, hJ3, hk3⟩ | ⟨rfl, q, hq, hx3⟩))
          · have HB3 := hid (SBox.keep HB2.out (hk3 B (.inr rfl)))
            have HS3 := hid (show B < w3.heap.size from World.block_lt_of_cell? w3 ⟨B, 2, none⟩ (HB3.out 2 x rfl).1)
            go_roundw
            case rel => exact ⟨x, D ++ [[x0, x1, (x : Int)]], x, by omega, by go_num, by rw [← List.append_assoc]; exact hJ3, by rw [List.append_assoc, ← HZ.out]; exact HDr.out, HB3.out, HS3.out, fun b hb => (hk3 b (.inl hb)).trans (HK2.out b hb)⟩
            case measure => simp [intOf]
          · go_ret
            refine .inr ⟨rfl, D ++ q, ?_, by rw [← List.append_assoc]; exact hx3⟩
            rw [← HDr.out, HZ.out]
            obtain ⟨t, ht⟩ := hq
            exact ⟨t ++ lpM [x0, x1] 0 rest x, by rw [← ht]; simp⟩
        · have hst' : decide ((rest : Int) ≤ 1 * (x : Int) * (x : Int)) = false := decide_eq_false hst
          have HN := hid (show D = Z by
            rw [← HDr.out, lpM_stop (decide_eq_true (by
              have h3 : ((0 + 1) * x * x : Nat) = 1 * (x * x) := by rw [Nat.mul_assoc]
              rw [h3]
              rw [hkx, ← Int.natCast_mul] at hst; omega))]; simp)
          go_wp2_with fail
          go_ret
          exact .inl ⟨rfl, by rw [← HN.out]; exact hJ.weak _ _ _ _ HJr.out (fun b hb => .inl hb), HKr.out⟩
  · subst hXe
    go_enter Try.func142, Try.ntmps142
    go_wp2_with (go_at_call 143; refine (HRT.out _).mono ?_; rintro e w2 ⟨rfl, rfl⟩)
    clear c0 c1 c2
    obtain ⟨B, hB⟩ : ∃ B, W.heap.size = B := ⟨_, rfl⟩
    rw [hB] at HB0 HB0s ⊢
    have HBB := hid hB
    clear hB
    go_loopw [14] (fun o wr => ∃ (y : Nat) (D : List (List Int)) (z : Int), y ≤ X + 1 ∧ o = .int .i64 ((y : Int) - 1) ∧ J (fun b => P b ∨ b = B) (pre ++ D) wr ∧ D ++ lpM [x0, x1] 0 rest y = Z ∧ SBox wr B [x0, x1, z] ∧ B < wr.heap.size ∧ ∀ b, P b → wr.heap[b]? = W.heap[b]?) (fun o _ => (intOf o + 1).toNat)
    case atStart => exact ⟨X + 1, [], 0, Nat.le_refl _, by simp, by simpa [HBB.out] using HJ1.out, by simpa using HZ0.out, HB0.out, by rw [HB0s.out]; omega, HK0.out⟩
    case round =>
      obtain ⟨y, D, z, hy, rfl, hJr, hDr, hBr, hBs, hKr⟩ := hrel
      have HJr := hid hJr
      have HDr := hid hDr
      have HBr := hid hBr
      have HBs := hid hBs
      have HKr := hid hKr
      clear hJr hDr hBr hBs hKr
      by_cases h0 : y = 0
      · subst h0
        have HN := hid (show D = Z by rw [← HDr.out]; simp [lpM, lpY])
        go_wp2_with fail
        go_ret
        exact .inl ⟨rfl, by rw [← HN.out]; exact hJ.weak _ _ _ _ HJr.out (fun b hb => .inl hb), HKr.out⟩
      · obtain ⟨x, rfl⟩ : ∃ x, y = x + 1 := ⟨y - 1, by omega⟩
        rw [show ((x + 1 : Nat) : Int) - 1 = (x : Int) by omega]
        have hxX : x ≤ X := by omega
        have hxx : 0 ≤ (x : Int) * (x : Int) ∧ (x : Int) * (x : Int) ≤ 1000000 := by
          have := Nat.mul_le_mul (show x ≤ 1000 by omega) (show x ≤ 1000 by omega)
          rw [← Int.natCast_mul]; omega
        have hkx : 1 * (x : Int) * (x : Int) = 1 * ((x : Int) * (x : Int)) := Int.mul_assoc _ _ _
        have hkxx : 0 ≤ 1 * (x : Int) * (x : Int) ∧ 1 * (x : Int) * (x : Int) ≤ 4000000 := by omega
        by_cases hst : (rest : Int) ≤ 1 * (x : Int) * (x : Int)
        · have HST := hid (show sqStop 0 rest x = false from decide_eq_false (by
            have h3 : ((0 + 1) * x * x : Nat) = 1 * (x * x) := by rw [Nat.mul_assoc]
            rw [h3]
            rw [hkx, ← Int.natCast_mul] at hst; omega))
          have hxr : x * x ≤ rest := by
            have h1 := Nat.mul_le_mul hxX hxX
            have h2 := HXR.out
            omega
          obtain ⟨m, hm⟩ : ∃ m, rest - x * x = m := ⟨_, rfl⟩
          have hnx : (rest : Int) - (x : Int) * (x : Int) = (m : Int) := by rw [← Int.natCast_mul]; omega
          have hm6 : m ≤ 1000000 := by omega
          have hrx : rest - x * x = 0 := by rw [hkx, ← Int.natCast_mul] at hst; omega
          have HZ := hid (show lpM [x0, x1] 0 rest (x + 1) = [[x0, x1, (x : Int)]] ++ lpM [x0, x1] 0 rest x by rw [lpM_go HST.out, hrx]; rfl)
          have c2 := HBr.out 2 z rfl
          have HB2 := hid (HBr.out.set 2 (x : Int))
          have HJ2 := hid (hJ.set _ _ _ B 2 (.int .i64 (x : Int)) HJr.out (.inr rfl))
          have HS2 := hid (show (wr.setCell ⟨B, 2, none⟩ (.int .i64 (x : Int))).heap.size = wr.heap.size by simp)
          have HK2 := hid (fun b (hb : P b) => (heap_setCell_other wr ⟨B, 2, none⟩ b (.int .i64 (x : Int)) (by have h1 := HP.out b hb; have h2 := HBB.out; simp only; omega)).trans (HKr.out b hb))
          have HC := hid (each3_3 hJ hY x0 x1 x (fun b => P b ∨ b = B) (pre ++ D) m x _ HJ2.out (by
            intro b hb
            rw [HS2.out]
            rcases hb with hb | rfl
            · have h1 := HP.out b hb; have h2 := HBs.out; have h3 := HBB.out; omega
            · exact HBs.out) (by
            have h1 := HL.out
            rw [← HDr.out, HZ.out] at h1
            exact pre_part h1))
          obtain ⟨cc2, ff2⟩ := c2
          have d0 := (HB2.out 0 x0 rfl).1
          have d1 := (HB2.out 1 x1 rfl).1
          have d2 := (HB2.out 2 (x : Int) rfl).1
          clear hm HST
          go_wp2_with (go_at_call 142; refine HC.out.mono ?_; rintro e w3 (⟨rfl, hJ3, hk3⟩ | ⟨rfl, q, hq, hx3⟩))
          · have HB3 := hid (SBox.keep HB2.out (hk3 B (.inr rfl)))
            have HS3 := hid (show B < w3.heap.size from World.block_lt_of_cell? w3 ⟨B, 2, none⟩ (HB3.out 2 x rfl).1)
            go_roundw
            case rel => exact ⟨x, D ++ [[x0, x1, (x : Int)]], x, by omega, by go_num, by rw [← List.append_assoc]; exact hJ3, by rw [List.append_assoc, ← HZ.out]; exact HDr.out, HB3.out, HS3.out, fun b hb => (hk3 b (.inl hb)).trans (HK2.out b hb)⟩
            case measure => simp [intOf]
          · go_ret
            refine .inr ⟨rfl, D ++ q, ?_, by rw [← List.append_assoc]; exact hx3⟩
            rw [← HDr.out, HZ.out]
            obtain ⟨t, ht⟩ := hq
            exact ⟨t ++ lpM [x0, x1] 0 rest x, by rw [← ht]; simp⟩
        · have hst' : decide ((rest : Int) ≤ 1 * (x : Int) * (x : Int)) = false := decide_eq_false hst
          have HN := hid (show D = Z by
            rw [← HDr.out, lpM_stop (decide_eq_true (by
              have h3 : ((0 + 1) * x * x : Nat) = 1 * (x * x) := by rw [Nat.mul_assoc]
              rw [h3]
              rw [hkx, ← Int.natCast_mul] at hst; omega))]; simp)
          go_wp2_with fail
          go_ret
          exact .inl ⟨rfl, by rw [← HN.out]; exact hJ.weak _ _ _ _ HJr.out (fun b hb => .inl hb), HKr.out⟩

set_option maxRecDepth 20000 in
set_option maxHeartbeats 4000000 in
theorem each3_1 {J : (Nat → Prop) → List (List Int) → World → Prop} {Jx : List (List Int) → World → Prop} (hJ : Carr J) {l : Nat} {L : List (List Int)} (hY : Yields l L J Jx) (x0 : Int)
    (P : Nat → Prop) (pre : List (List Int)) (rest most : Nat) (W : World) (h : J P pre W) (hrest : rest ≤ 1000000) (hmost : most ≤ 1000000) (hP : ∀ b, P b → b < W.heap.size) (hL : pre ++ (Sq.sqL 2 rest most).map ([x0] ++ ·) <+: L) :
    Calls Try.prog 142 #[.agg #[.int .i64 x0, .int .i64 0, .int .i64 0], .int .i64 1, .int .i64 rest, .int .i64 most, .func (.yield l) #[] #[]] W fun e W' => Went J Jx P pre ((Sq.sqL 2 rest most).map ([x0] ++ ·)) W e W' := by
  rw [← lpM_all] at hL ⊢
  have HRT := hid (fun w => rootOf9_any rest w hrest)
  have hrr := rootN_le hrest
  obtain ⟨X, hX⟩ : ∃ X, min most (rootN rest) = X := ⟨_, rfl⟩
  rw [hX] at hL ⊢
  have hX3 : X ≤ 1000 := by omega
  have HXR := hid (show X * X ≤ rest by
    have := Nat.mul_le_mul (show X ≤ rootN rest by omega) (show X ≤ rootN rest by omega)
    have := (rootN_spec rest).1; omega)
  obtain ⟨Z, hZ⟩ : ∃ Z, lpM [x0] 1 rest (X + 1) = Z := ⟨_, rfl⟩
  rw [hZ] at hL ⊢
  have HZ0 := hid hZ
  have HL := hid hL
  have HP := hid hP
  have HJ1 := hid (hJ.new P pre W #[.int .i64 x0, .int .i64 0, .int .i64 0] 100 h)
  have HB0 := hid (SBox.new W [x0, 0, 0] #[.int .i64 x0, .int .i64 0, .int .i64 0] 100 rfl)
  have HK0 := hid (fun b (hb : P b) => Below.heap_alloc W (.cells #[.int .i64 x0, .int .i64 0, .int .i64 0] 100) b (hP b hb))
  have c0 := (HB0.out 0 x0 rfl).1
  have c1 := (HB0.out 1 0 rfl).1
  have c2 := (HB0.out 2 0 rfl).1
  have HB0s := hid (show (W.alloc (.cells #[.int .i64 x0, .int .i64 0, .int .i64 0] 100)).heap.size = W.heap.size + 1 by simp)
  obtain ⟨R, hR⟩ : ∃ R, rootN rest = R := ⟨_, rfl⟩
  rw [hR] at HRT hX hrr
  clear h hP hL hZ hR
  have key : (X = R ∧ (R : Int) ≤ (most : Int)) ∨ (X = most ∧ ¬ (R : Int) ≤ (most : Int)) := by omega
  clear hX
  rcases key with ⟨hXe, hle0⟩ | ⟨hXe, hle0⟩
  · subst hXe
    go_enter Try.func142, Try.ntmps142
    go_wp2_with (go_at_call 143; refine (HRT.out _).mono ?_; rintro e w2 ⟨rfl, rfl⟩)
    clear c0 c1 c2
    obtain ⟨B, hB⟩ : ∃ B, W.heap.size = B := ⟨_, rfl⟩
    rw [hB] at HB0 HB0s ⊢
    have HBB := hid hB
    clear hB
    go_loopw [14] (fun o wr => ∃ (y : Nat) (D : List (List Int)) (z : Int), y ≤ X + 1 ∧ o = .int .i64 ((y : Int) - 1) ∧ J (fun b => P b ∨ b = B) (pre ++ D) wr ∧ D ++ lpM [x0] 1 rest y = Z ∧ SBox wr B [x0, z, 0] ∧ B < wr.heap.size ∧ ∀ b, P b → wr.heap[b]? = W.heap[b]?) (fun o _ => (intOf o + 1).toNat)
    case atStart => exact ⟨X + 1, [], 0, Nat.le_refl _, by simp, by simpa [HBB.out] using HJ1.out, by simpa using HZ0.out, HB0.out, by rw [HB0s.out]; omega, HK0.out⟩
    case round =>
      obtain ⟨y, D, z, hy, rfl, hJr, hDr, hBr, hBs, hKr⟩ := hrel
      have HJr := hid hJr
      have HDr := hid hDr
      have HBr := hid hBr
      have HBs := hid hBs
      have HKr := hid hKr
      clear hJr hDr hBr hBs hKr
      by_cases h0 : y = 0
      · subst h0
        have HN := hid (show D = Z by rw [← HDr.out]; simp [lpM, lpY])
        go_wp2_with fail
        go_ret
        exact .inl ⟨rfl, by rw [← HN.out]; exact hJ.weak _ _ _ _ HJr.out (fun b hb => .inl hb), HKr.out⟩
      · obtain ⟨x, rfl⟩ : ∃ x, y = x + 1 := ⟨y - 1, by omega⟩
        rw [show ((x + 1 : Nat) : Int) - 1 = (x : Int) by omega]
        have hxX : x ≤ X := by omega
        have hxx : 0 ≤ (x : Int) * (x : Int) ∧ (x : Int) * (x : Int) ≤ 1000000 := by
          have := Nat.mul_le_mul (show x ≤ 1000 by omega) (show x ≤ 1000 by omega)
          rw [← Int.natCast_mul]; omega
        have hkx : 2 * (x : Int) * (x : Int) = 2 * ((x : Int) * (x : Int)) := Int.mul_assoc _ _ _
        have hkxx : 0 ≤ 2 * (x : Int) * (x : Int) ∧ 2 * (x : Int) * (x : Int) ≤ 4000000 := by omega
        by_cases hst : (rest : Int) ≤ 2 * (x : Int) * (x : Int)
        · have HST := hid (show sqStop 1 rest x = false from decide_eq_false (by
            have h3 : ((1 + 1) * x * x : Nat) = 2 * (x * x) := by rw [Nat.mul_assoc]
            rw [h3]
            rw [hkx, ← Int.natCast_mul] at hst; omega))
          have hxr : x * x ≤ rest := by
            have h1 := Nat.mul_le_mul hxX hxX
            have h2 := HXR.out
            omega
          obtain ⟨m, hm⟩ : ∃ m, rest - x * x = m := ⟨_, rfl⟩
          have hnx : (rest : Int) - (x : Int) * (x : Int) = (m : Int) := by rw [← Int.natCast_mul]; omega
          have hm6 : m ≤ 1000000 := by omega
          have HZ := hid (show lpM [x0] 1 rest (x + 1) = ((Sq.sqL 1 m x).map ([x0, (x : Int)] ++ ·)) ++ lpM [x0] 1 rest x by rw [lpM_go HST.out, hm]; rfl)
          have c1 := HBr.out 1 z rfl
          have HB2 := hid (HBr.out.set 1 (x : Int))
          have HJ2 := hid (hJ.set _ _ _ B 1 (.int .i64 (x : Int)) HJr.out (.inr rfl))
          have HS2 := hid (show (wr.setCell ⟨B, 1, none⟩ (.int .i64 (x : Int))).heap.size = wr.heap.size by simp)
          have HK2 := hid (fun b (hb : P b) => (heap_setCell_other wr ⟨B, 1, none⟩ b (.int .i64 (x : Int)) (by have h1 := HP.out b hb; have h2 := HBB.out; simp only; omega)).trans (HKr.out b hb))
          have HC := hid (each3_2 hJ hY x0 x (fun b => P b ∨ b = B) (pre ++ D) m x _ HJ2.out (by omega) (by omega) (by
            intro b hb
            rw [HS2.out]
            rcases hb with hb | rfl
            · have h1 := HP.out b hb; have h2 := HBs.out; have h3 := HBB.out; omega
            · exact HBs.out) (by
            have h1 := HL.out
            rw [← HDr.out, HZ.out] at h1
            exact pre_part h1))
          obtain ⟨cc1, ff1⟩ := c1
          have d0 := (HB2.out 0 x0 rfl).1
          have d1 := (HB2.out 1 (x : Int) rfl).1
          have d2 := (HB2.out 2 0 rfl).1
          clear hm HST
          go_wp2_with (go_at_call 142; refine HC.out.mono ?_; rintro e w3 (⟨rfl, hJ3, hk3⟩ | ⟨rfl, q, hq, hx3⟩))
          · have HB3 := hid (SBox.keep HB2.out (hk3 B (.inr rfl)))
            have HS3 := hid (show B < w3.heap.size from World.block_lt_of_cell? w3 ⟨B, 1, none⟩ (HB3.out 1 x rfl).1)
            go_roundw
            case rel => exact ⟨x, D ++ ((Sq.sqL 1 m x).map ([x0, (x : Int)] ++ ·)), x, by omega, by go_num, by rw [← List.append_assoc]; exact hJ3, by rw [List.append_assoc, ← HZ.out]; exact HDr.out, HB3.out, HS3.out, fun b hb => (hk3 b (.inl hb)).trans (HK2.out b hb)⟩
            case measure => simp [intOf]
          · go_ret
            refine .inr ⟨rfl, D ++ q, ?_, by rw [← List.append_assoc]; exact hx3⟩
            rw [← HDr.out, HZ.out]
            obtain ⟨t, ht⟩ := hq
            exact ⟨t ++ lpM [x0] 1 rest x, by rw [← ht]; simp⟩
        · have hst' : decide ((rest : Int) ≤ 2 * (x : Int) * (x : Int)) = false := decide_eq_false hst
          have HN := hid (show D = Z by
            rw [← HDr.out, lpM_stop (decide_eq_true (by
              have h3 : ((1 + 1) * x * x : Nat) = 2 * (x * x) := by rw [Nat.mul_assoc]
              rw [h3]
              rw [hkx, ← Int.natCast_mul] at hst; omega))]; simp)
          go_wp2_with fail
          go_ret
          exact .inl ⟨rfl, by rw [← HN.out]; exact hJ.weak _ _ _ _ HJr.out (fun b hb => .inl hb), HKr.out⟩
  · subst hXe
    go_enter Try.func142, Try.ntmps142
    go_wp2_with (go_at_call 143; refine (HRT.out _).mono ?_; rintro e w2 ⟨rfl, rfl⟩)
    clear c0 c1 c2
    obtain ⟨B, hB⟩ : ∃ B, W.heap.size = B := ⟨_, rfl⟩
    rw [hB] at HB0 HB0s ⊢
    have HBB := hid hB
    clear hB
    go_loopw [14] (fun o wr => ∃ (y : Nat) (D : List (List Int)) (z : Int), y ≤ X + 1 ∧ o = .int .i64 ((y : Int) - 1) ∧ J (fun b => P b ∨ b = B) (pre ++ D) wr ∧ D ++ lpM [x0] 1 rest y = Z ∧ SBox wr B [x0, z, 0] ∧ B < wr.heap.size ∧ ∀ b, P b → wr.heap[b]? = W.heap[b]?) (fun o _ => (intOf o + 1).toNat)
    case atStart => exact ⟨X + 1, [], 0, Nat.le_refl _, by simp, by simpa [HBB.out] using HJ1.out, by simpa using HZ0.out, HB0.out, by rw [HB0s.out]; omega, HK0.out⟩
    case round =>
      obtain ⟨y, D, z, hy, rfl, hJr, hDr, hBr, hBs, hKr⟩ := hrel
      have HJr := hid hJr
      have HDr := hid hDr
      have HBr := hid hBr
      have HBs := hid hBs
      have HKr := hid hKr
      clear hJr hDr hBr hBs hKr
      by_cases h0 : y = 0
      · subst h0
        have HN := hid (show D = Z by rw [← HDr.out]; simp [lpM, lpY])
        go_wp2_with fail
        go_ret
        exact .inl ⟨rfl, by rw [← HN.out]; exact hJ.weak _ _ _ _ HJr.out (fun b hb => .inl hb), HKr.out⟩
      · obtain ⟨x, rfl⟩ : ∃ x, y = x + 1 := ⟨y - 1, by omega⟩
        rw [show ((x + 1 : Nat) : Int) - 1 = (x : Int) by omega]
        have hxX : x ≤ X := by omega
        have hxx : 0 ≤ (x : Int) * (x : Int) ∧ (x : Int) * (x : Int) ≤ 1000000 := by
          have := Nat.mul_le_mul (show x ≤ 1000 by omega) (show x ≤ 1000 by omega)
          rw [← Int.natCast_mul]; omega
        have hkx : 2 * (x : Int) * (x : Int) = 2 * ((x : Int) * (x : Int)) := Int.mul_assoc _ _ _
        have hkxx : 0 ≤ 2 * (x : Int) * (x : Int) ∧ 2 * (x : Int) * (x : Int) ≤ 4000000 := by omega
        by_cases hst : (rest : Int) ≤ 2 * (x : Int) * (x : Int)
        · have HST := hid (show sqStop 1 rest x = false from decide_eq_false (by
            have h3 : ((1 + 1) * x * x : Nat) = 2 * (x * x) := by rw [Nat.mul_assoc]
            rw [h3]
            rw [hkx, ← Int.natCast_mul] at hst; omega))
          have hxr : x * x ≤ rest := by
            have h1 := Nat.mul_le_mul hxX hxX
            have h2 := HXR.out
            omega
          obtain ⟨m, hm⟩ : ∃ m, rest - x * x = m := ⟨_, rfl⟩
          have hnx : (rest : Int) - (x : Int) * (x : Int) = (m : Int) := by rw [← Int.natCast_mul]; omega
          have hm6 : m ≤ 1000000 := by omega
          have HZ := hid (show lpM [x0] 1 rest (x + 1) = ((Sq.sqL 1 m x).map ([x0, (x : Int)] ++ ·)) ++ lpM [x0] 1 rest x by rw [lpM_go HST.out, hm]; rfl)
          have c1 := HBr.out 1 z rfl
          have HB2 := hid (HBr.out.set 1 (x : Int))
          have HJ2 := hid (hJ.set _ _ _ B 1 (.int .i64 (x : Int)) HJr.out (.inr rfl))
          have HS2 := hid (show (wr.setCell ⟨B, 1, none⟩ (.int .i64 (x : Int))).heap.size = wr.heap.size by simp)
          have HK2 := hid (fun b (hb : P b) => (heap_setCell_other wr ⟨B, 1, none⟩ b (.int .i64 (x : Int)) (by have h1 := HP.out b hb; have h2 := HBB.out; simp only; omega)).trans (HKr.out b hb))
          have HC := hid (each3_2 hJ hY x0 x (fun b => P b ∨ b = B) (pre ++ D) m x _ HJ2.out (by omega) (by omega) (by
            intro b hb
            rw [HS2.out]
            rcases hb with hb | rfl
            · have h1 := HP.out b hb; have h2 := HBs.out; have h3 := HBB.out; omega
            · exact HBs.out) (by
            have h1 := HL.out
            rw [← HDr.out, HZ.out] at h1
            exact pre_part h1))
          obtain ⟨cc1, ff1⟩ := c1
          have d0 := (HB2.out 0 x0 rfl).1
          have d1 := (HB2.out 1 (x : Int) rfl).1
          have d2 := (HB2.out 2 0 rfl).1
          clear hm HST
          go_wp2_with (go_at_call 142; refine HC.out.mono ?_; rintro e w3 (⟨rfl, hJ3, hk3⟩ | ⟨rfl, q, hq, hx3⟩))
          · have HB3 := hid (SBox.keep HB2.out (hk3 B (.inr rfl)))
            have HS3 := hid (show B < w3.heap.size from World.block_lt_of_cell? w3 ⟨B, 1, none⟩ (HB3.out 1 x rfl).1)
            go_roundw
            case rel => exact ⟨x, D ++ ((Sq.sqL 1 m x).map ([x0, (x : Int)] ++ ·)), x, by omega, by go_num, by rw [← List.append_assoc]; exact hJ3, by rw [List.append_assoc, ← HZ.out]; exact HDr.out, HB3.out, HS3.out, fun b hb => (hk3 b (.inl hb)).trans (HK2.out b hb)⟩
            case measure => simp [intOf]
          · go_ret
            refine .inr ⟨rfl, D ++ q, ?_, by rw [← List.append_assoc]; exact hx3⟩
            rw [← HDr.out, HZ.out]
            obtain ⟨t, ht⟩ := hq
            exact ⟨t ++ lpM [x0] 1 rest x, by rw [← ht]; simp⟩
        · have hst' : decide ((rest : Int) ≤ 2 * (x : Int) * (x : Int)) = false := decide_eq_false hst
          have HN := hid (show D = Z by
            rw [← HDr.out, lpM_stop (decide_eq_true (by
              have h3 : ((1 + 1) * x * x : Nat) = 2 * (x * x) := by rw [Nat.mul_assoc]
              rw [h3]
              rw [hkx, ← Int.natCast_mul] at hst; omega))]; simp)
          go_wp2_with fail
          go_ret
          exact .inl ⟨rfl, by rw [← HN.out]; exact hJ.weak _ _ _ _ HJr.out (fun b hb => .inl hb), HKr.out⟩

set_option maxRecDepth 20000 in
set_option maxHeartbeats 4000000 in
theorem each3_0 {J : (Nat → Prop) → List (List Int) → World → Prop} {Jx : List (List Int) → World → Prop} (hJ : Carr J) {l : Nat} {L : List (List Int)} (hY : Yields l L J Jx) 
    (P : Nat → Prop) (pre : List (List Int)) (rest most : Nat) (W : World) (h : J P pre W) (hrest : rest ≤ 1000000) (hmost : most ≤ 1000000) (hP : ∀ b, P b → b < W.heap.size) (hL : pre ++ (Sq.sqL 3 rest most).map ([] ++ ·) <+: L) :
    Calls Try.prog 142 #[.agg #[.int .i64 0, .int .i64 0, .int .i64 0], .int .i64 0, .int .i64 rest, .int .i64 most, .func (.yield l) #[] #[]] W fun e W' => Went J Jx P pre ((Sq.sqL 3 rest most).map ([] ++ ·)) W e W' := by
  rw [← lpM_all] at hL ⊢
  have HRT := hid (fun w => rootOf9_any rest w hrest)
  have hrr := rootN_le hrest
  obtain ⟨X, hX⟩ : ∃ X, min most (rootN rest) = X := ⟨_, rfl⟩
  rw [hX] at hL ⊢
  have hX3 : X ≤ 1000 := by omega
  have HXR := hid (show X * X ≤ rest by
    have := Nat.mul_le_mul (show X ≤ rootN rest by omega) (show X ≤ rootN rest by omega)
    have := (rootN_spec rest).1; omega)
  obtain ⟨Z, hZ⟩ : ∃ Z, lpM [] 2 rest (X + 1) = Z := ⟨_, rfl⟩
  rw [hZ] at hL ⊢
  have HZ0 := hid hZ
  have HL := hid hL
  have HP := hid hP
  have HJ1 := hid (hJ.new P pre W #[.int .i64 0, .int .i64 0, .int .i64 0] 100 h)
  have HB0 := hid (SBox.new W [0, 0, 0] #[.int .i64 0, .int .i64 0, .int .i64 0] 100 rfl)
  have HK0 := hid (fun b (hb : P b) => Below.heap_alloc W (.cells #[.int .i64 0, .int .i64 0, .int .i64 0] 100) b (hP b hb))
  have c0 := (HB0.out 0 0 rfl).1
  have c1 := (HB0.out 1 0 rfl).1
  have c2 := (HB0.out 2 0 rfl).1
  have HB0s := hid (show (W.alloc (.cells #[.int .i64 0, .int .i64 0, .int .i64 0] 100)).heap.size = W.heap.size + 1 by simp)
  obtain ⟨R, hR⟩ : ∃ R, rootN rest = R := ⟨_, rfl⟩
  rw [hR] at HRT hX hrr
  clear h hP hL hZ hR
  have key : (X = R ∧ (R : Int) ≤ (most : Int)) ∨ (X = most ∧ ¬ (R : Int) ≤ (most : Int)) := by omega
  clear hX
  rcases key with ⟨hXe, hle0⟩ | ⟨hXe, hle0⟩
  · subst hXe
    go_enter Try.func142, Try.ntmps142
    go_wp2_with (go_at_call 143; refine (HRT.out _).mono ?_; rintro e w2 ⟨rfl, rfl⟩)
    clear c0 c1 c2
    obtain ⟨B, hB⟩ : ∃ B, W.heap.size = B := ⟨_, rfl⟩
    rw [hB] at HB0 HB0s ⊢
    have HBB := hid hB
    clear hB
    go_loopw [14] (fun o wr => ∃ (y : Nat) (D : List (List Int)) (z : Int), y ≤ X + 1 ∧ o = .int .i64 ((y : Int) - 1) ∧ J (fun b => P b ∨ b = B) (pre ++ D) wr ∧ D ++ lpM [] 2 rest y = Z ∧ SBox wr B [z, 0, 0] ∧ B < wr.heap.size ∧ ∀ b, P b → wr.heap[b]? = W.heap[b]?) (fun o _ => (intOf o + 1).toNat)
    case atStart => exact ⟨X + 1, [], 0, Nat.le_refl _, by simp, by simpa [HBB.out] using HJ1.out, by simpa using HZ0.out, HB0.out, by rw [HB0s.out]; omega, HK0.out⟩
    case round =>
      obtain ⟨y, D, z, hy, rfl, hJr, hDr, hBr, hBs, hKr⟩ := hrel
      have HJr := hid hJr
      have HDr := hid hDr
      have HBr := hid hBr
      have HBs := hid hBs
      have HKr := hid hKr
      clear hJr hDr hBr hBs hKr
      by_cases h0 : y = 0
      · subst h0
        have HN := hid (show D = Z by rw [← HDr.out]; simp [lpM, lpY])
        go_wp2_with fail
        go_ret
        exact .inl ⟨rfl, by rw [← HN.out]; exact hJ.weak _ _ _ _ HJr.out (fun b hb => .inl hb), HKr.out⟩
      · obtain ⟨x, rfl⟩ : ∃ x, y = x + 1 := ⟨y - 1, by omega⟩
        rw [show ((x + 1 : Nat) : Int) - 1 = (x : Int) by omega]
        have hxX : x ≤ X := by omega
        have hxx : 0 ≤ (x : Int) * (x : Int) ∧ (x : Int) * (x : Int) ≤ 1000000 := by
          have := Nat.mul_le_mul (show x ≤ 1000 by omega) (show x ≤ 1000 by omega)
          rw [← Int.natCast_mul]; omega
        have hkx : 3 * (x : Int) * (x : Int) = 3 * ((x : Int) * (x : Int)) := Int.mul_assoc _ _ _
        have hkxx : 0 ≤ 3 * (x : Int) * (x : Int) ∧ 3 * (x : Int) * (x : Int) ≤ 4000000 := by omega
        by_cases hst : (rest : Int) ≤ 3 * (x : Int) * (x : Int)
        · have HST := hid (show sqStop 2 rest x = false from decide_eq_false (by
            have h3 : ((2 + 1) * x * x : Nat) = 3 * (x * x) := by rw [Nat.mul_assoc]
            rw [h3]
            rw [hkx, ← Int.natCast_mul] at hst; omega))
          have hxr : x * x ≤ rest := by
            have h1 := Nat.mul_le_mul hxX hxX
            have h2 := HXR.out
            omega
          obtain ⟨m, hm⟩ : ∃ m, rest - x * x = m := ⟨_, rfl⟩
          have hnx : (rest : Int) - (x : Int) * (x : Int) = (m : Int) := by rw [← Int.natCast_mul]; omega
          have hm6 : m ≤ 1000000 := by omega
          have HZ := hid (show lpM [] 2 rest (x + 1) = ((Sq.sqL 2 m x).map ([(x : Int)] ++ ·)) ++ lpM [] 2 rest x by rw [lpM_go HST.out, hm]; rfl)
          have c0 := HBr.out 0 z rfl
          have HB2 := hid (HBr.out.set 0 (x : Int))
          have HJ2 := hid (hJ.set _ _ _ B 0 (.int .i64 (x : Int)) HJr.out (.inr rfl))
          have HS2 := hid (show (wr.setCell ⟨B, 0, none⟩ (.int .i64 (x : Int))).heap.size = wr.heap.size by simp)
          have HK2 := hid (fun b (hb : P b) => (heap_setCell_other wr ⟨B, 0, none⟩ b (.int .i64 (x : Int)) (by have h1 := HP.out b hb; have h2 := HBB.out; simp only; omega)).trans (HKr.out b hb))
          have HC := hid (each3_1 hJ hY  x (fun b => P b ∨ b = B) (pre ++ D) m x _ HJ2.out (by omega) (by omega) (by
            intro b hb
            rw [HS2.out]
            rcases hb with hb | rfl
            · have h1 := HP.out b hb; have h2 := HBs.out; have h3 := HBB.out; omega
            · exact HBs.out) (by
            have h1 := HL.out
            rw [← HDr.out, HZ.out] at h1
            exact pre_part h1))
          obtain ⟨cc0, ff0⟩ := c0
          have d0 := (HB2.out 0 (x : Int) rfl).1
          have d1 := (HB2.out 1 0 rfl).1
          have d2 := (HB2.out 2 0 rfl).1
          clear hm HST
          go_wp2_with (go_at_call 142; refine HC.out.mono ?_; rintro e w3 (⟨rfl, hJ3, hk3⟩ | ⟨rfl, q, hq, hx3⟩))
          · have HB3 := hid (SBox.keep HB2.out (hk3 B (.inr rfl)))
            have HS3 := hid (show B < w3.heap.size from World.block_lt_of_cell? w3 ⟨B, 0, none⟩ (HB3.out 0 x rfl).1)
            go_roundw
            case rel => exact ⟨x, D ++ ((Sq.sqL 2 m x).map ([(x : Int)] ++ ·)), x, by omega, by go_num, by rw [← List.append_assoc]; exact hJ3, by rw [List.append_assoc, ← HZ.out]; exact HDr.out, HB3.out, HS3.out, fun b hb => (hk3 b (.inl hb)).trans (HK2.out b hb)⟩
            case measure => simp [intOf]
          · go_ret
            refine .inr ⟨rfl, D ++ q, ?_, by rw [← List.append_assoc]; exact hx3⟩
            rw [← HDr.out, HZ.out]
            obtain ⟨t, ht⟩ := hq
            exact ⟨t ++ lpM [] 2 rest x, by rw [← ht]; simp⟩
        · have hst' : decide ((rest : Int) ≤ 3 * (x : Int) * (x : Int)) = false := decide_eq_false hst
          have HN := hid (show D = Z by
            rw [← HDr.out, lpM_stop (decide_eq_true (by
              have h3 : ((2 + 1) * x * x : Nat) = 3 * (x * x) := by rw [Nat.mul_assoc]
              rw [h3]
              rw [hkx, ← Int.natCast_mul] at hst; omega))]; simp)
          go_wp2_with fail
          go_ret
          exact .inl ⟨rfl, by rw [← HN.out]; exact hJ.weak _ _ _ _ HJr.out (fun b hb => .inl hb), HKr.out⟩
  · subst hXe
    go_enter Try.func142, Try.ntmps142
    go_wp2_with (go_at_call 143; refine (HRT.out _).mono ?_; rintro e w2 ⟨rfl, rfl⟩)
    clear c0 c1 c2
    obtain ⟨B, hB⟩ : ∃ B, W.heap.size = B := ⟨_, rfl⟩
    rw [hB] at HB0 HB0s ⊢
    have HBB := hid hB
    clear hB
    go_loopw [14] (fun o wr => ∃ (y : Nat) (D : List (List Int)) (z : Int), y ≤ X + 1 ∧ o = .int .i64 ((y : Int) - 1) ∧ J (fun b => P b ∨ b = B) (pre ++ D) wr ∧ D ++ lpM [] 2 rest y = Z ∧ SBox wr B [z, 0, 0] ∧ B < wr.heap.size ∧ ∀ b, P b → wr.heap[b]? = W.heap[b]?) (fun o _ => (intOf o + 1).toNat)
    case atStart => exact ⟨X + 1, [], 0, Nat.le_refl _, by simp, by simpa [HBB.out] using HJ1.out, by simpa using HZ0.out, HB0.out, by rw [HB0s.out]; omega, HK0.out⟩
    case round =>
      obtain ⟨y, D, z, hy, rfl, hJr, hDr, hBr, hBs, hKr⟩ := hrel
      have HJr := hid hJr
      have HDr := hid hDr
      have HBr := hid hBr
      have HBs := hid hBs
      have HKr := hid hKr
      clear hJr hDr hBr hBs hKr
      by_cases h0 : y = 0
      · subst h0
        have HN := hid (show D = Z by rw [← HDr.out]; simp [lpM, lpY])
        go_wp2_with fail
        go_ret
        exact .inl ⟨rfl, by rw [← HN.out]; exact hJ.weak _ _ _ _ HJr.out (fun b hb => .inl hb), HKr.out⟩
      · obtain ⟨x, rfl⟩ : ∃ x, y = x + 1 := ⟨y - 1, by omega⟩
        rw [show ((x + 1 : Nat) : Int) - 1 = (x : Int) by omega]
        have hxX : x ≤ X := by omega
        have hxx : 0 ≤ (x : Int) * (x : Int) ∧ (x : Int) * (x : Int) ≤ 1000000 := by
          have := Nat.mul_le_mul (show x ≤ 1000 by omega) (show x ≤ 1000 by omega)
          rw [← Int.natCast_mul]; omega
        have hkx : 3 * (x : Int) * (x : Int) = 3 * ((x : Int) * (x : Int)) := Int.mul_assoc _ _ _
        have hkxx : 0 ≤ 3 * (x : Int) * (x : Int) ∧ 3 * (x : Int) * (x : Int) ≤ 4000000 := by omega
        by_cases hst : (rest : Int) ≤ 3 * (x : Int) * (x : Int)
        · have HST := hid (show sqStop 2 rest x = false from decide_eq_false (by
            have h3 : ((2 + 1) * x * x : Nat) = 3 * (x * x) := by rw [Nat.mul_assoc]
            rw [h3]
            rw [hkx, ← Int.natCast_mul] at hst; omega))
          have hxr : x * x ≤ rest := by
            have h1 := Nat.mul_le_mul hxX hxX
            have h2 := HXR.out
            omega
          obtain ⟨m, hm⟩ : ∃ m, rest - x * x = m := ⟨_, rfl⟩
          have hnx : (rest : Int) - (x : Int) * (x : Int) = (m : Int) := by rw [← Int.natCast_mul]; omega
          have hm6 : m ≤ 1000000 := by omega
          have HZ := hid (show lpM [] 2 rest (x + 1) = ((Sq.sqL 2 m x).map ([(x : Int)] ++ ·)) ++ lpM [] 2 rest x by rw [lpM_go HST.out, hm]; rfl)
          have c0 := HBr.out 0 z rfl
          have HB2 := hid (HBr.out.set 0 (x : Int))
          have HJ2 := hid (hJ.set _ _ _ B 0 (.int .i64 (x : Int)) HJr.out (.inr rfl))
          have HS2 := hid (show (wr.setCell ⟨B, 0, none⟩ (.int .i64 (x : Int))).heap.size = wr.heap.size by simp)
          have HK2 := hid (fun b (hb : P b) => (heap_setCell_other wr ⟨B, 0, none⟩ b (.int .i64 (x : Int)) (by have h1 := HP.out b hb; have h2 := HBB.out; simp only; omega)).trans (HKr.out b hb))
          have HC := hid (each3_1 hJ hY  x (fun b => P b ∨ b = B) (pre ++ D) m x _ HJ2.out (by omega) (by omega) (by
            intro b hb
            rw [HS2.out]
            rcases hb with hb | rfl
            · have h1 := HP.out b hb; have h2 := HBs.out; have h3 := HBB.out; omega
            · exact HBs.out) (by
            have h1 := HL.out
            rw [← HDr.out, HZ.out] at h1
            exact pre_part h1))
          obtain ⟨cc0, ff0⟩ := c0
          have d0 := (HB2.out 0 (x : Int) rfl).1
          have d1 := (HB2.out 1 0 rfl).1
          have d2 := (HB2.out 2 0 rfl).1
          clear hm HST
          go_wp2_with (go_at_call 142; refine HC.out.mono ?_; rintro e w3 (⟨rfl, hJ3, hk3⟩ | ⟨rfl, q, hq, hx3⟩))
          · have HB3 := hid (SBox.keep HB2.out (hk3 B (.inr rfl)))
            have HS3 := hid (show B < w3.heap.size from World.block_lt_of_cell? w3 ⟨B, 0, none⟩ (HB3.out 0 x rfl).1)
            go_roundw
            case rel => exact ⟨x, D ++ ((Sq.sqL 2 m x).map ([(x : Int)] ++ ·)), x, by omega, by go_num, by rw [← List.append_assoc]; exact hJ3, by rw [List.append_assoc, ← HZ.out]; exact HDr.out, HB3.out, HS3.out, fun b hb => (hk3 b (.inl hb)).trans (HK2.out b hb)⟩
            case measure => simp [intOf]
          · go_ret
            refine .inr ⟨rfl, D ++ q, ?_, by rw [← List.append_assoc]; exact hx3⟩
            rw [← HDr.out, HZ.out]
            obtain ⟨t, ht⟩ := hq
            exact ⟨t ++ lpM [] 2 rest x, by rw [← ht]; simp⟩
        · have hst' : decide ((rest : Int) ≤ 3 * (x : Int) * (x : Int)) = false := decide_eq_false hst
          have HN := hid (show D = Z by
            rw [← HDr.out, lpM_stop (decide_eq_true (by
              have h3 : ((2 + 1) * x * x : Nat) = 3 * (x * x) := by rw [Nat.mul_assoc]
              rw [h3]
              rw [hkx, ← Int.natCast_mul] at hst; omega))]; simp)
          go_wp2_with fail
          go_ret
          exact .inl ⟨rfl, by rw [← HN.out]; exact hJ.weak _ _ _ _ HJr.out (fun b hb => .inl hb), HKr.out⟩

open Go.RowKit Go.Shelf

set_option maxRecDepth 20000 in
set_option maxHeartbeats 4000000 in
theorem list3_any (x0 x1 x2 : Int) (w : World) :
    Calls Try.prog 131 #[.agg #[.int .i64 x0, .int .i64 x1, .int .i64 x2]] w fun e w' => MadeInts w [x0, x1, x2] e w' := by
  obtain ⟨i0, hi, hz0, hz1, hz2⟩ := info_parts Try.infoInt
  have HB := hid hz2
  have HX := hid (SBox.new w [x0, x1, x2] #[.int .i64 x0, .int .i64 x1, .int .i64 x2] 100 rfl)
  have HLA := hid (Later.alloc w (.cells #[.int .i64 x0, .int .i64 x1, .int .i64 x2] 100))
  have c0 := (HX.out 0 x0 rfl).1
  have c1 := (HX.out 1 x1 rfl).1
  have c2 := (HX.out 2 x2 rfl).1
  obtain ⟨zs, hzs⟩ : ∃ zs, [x0, x1, x2] = zs := ⟨_, rfl⟩
  rw [hzs] at HX ⊢
  have HZL := hid (show zs.length = 3 by rw [← hzs]; rfl)
  clear hzs
  go_enter Try.func131, Try.ntmps131
  obtain ⟨w0, hw0⟩ : ∃ w0, w.alloc (.cells #[.int .i64 x0, .int .i64 x1, .int .i64 x2] 100) = w0 := ⟨_, rfl⟩
  have HW0 := hid (show w0.heap.size = w.heap.size + 1 by rw [← hw0]; simp)
  rw [hw0] at HX HLA c0 c1 c2
  go_wp2_with (at_make; refine wpList_make_full _ rfl _ _ 33 rfl w.heap.size 3 i0 (.int .i64 0) 1 Try.underlying33 hi hz0 hz1 _ _ _ _ 3 rfl rfl rfl rfl ?b2 ?b3 ?b4 ?_)
  case b2 => rw [HB.out]; omega
  case b3 => unfold maxLen; omega
  case b4 => rw [HW0.out]; omega
  intro w1 hown hgrow
  have hL1 : Later w0 w1 := (Below.refl _ _).grown hgrow (Nat.le_refl _) (by simp)
  have HL := hid (HLA.out.trans hL1)
  have HX1 := hid (HX.out.keep (hL1.block w.heap.size (by rw [HW0.out]; omega)))
  have HF := hid (show Filled w.heap.size 3 w1 (.slice (some ⟨w0.heap.size, 0, none⟩) 3 3) 3 0 (zs.map (Value.int .i64)) from ⟨_, hown, by simp⟩)
  obtain ⟨s0, hs0⟩ : ∃ s, w0.heap.size = s := ⟨_, rfl⟩
  rw [hs0] at HF HW0 ⊢
  have HWS := hid HW0.out
  clear hown hgrow hL1 c0 c1 c2 HLA HX hw0 hs0 HW0
  go_wp2
  go_loopw [11] (fun i wr => ∃ k : Nat, k ≤ 3 ∧ i = .int .i64 k ∧ Filled w.heap.size 3 wr (.slice (some ⟨s0, 0, none⟩) 3 3) 3 k (zs.map (Value.int .i64)) ∧ SBox wr w.heap.size zs ∧ Later w wr)
    (fun i _ => 3 - (intOf i).toNat)
  case atStart => exact ⟨0, Nat.zero_le _, rfl, HF.out, HX1.out, HL.out⟩
  case round =>
    clear HF HX1 HL
    obtain ⟨k, hk, rfl, hFk, hXk, hLk⟩ := hrel
    by_cases hlt : (k : Int) < 3
    · have hkN : k < 3 := by omega
      obtain ⟨z, hz⟩ : ∃ z, zs[k]? = some z := ⟨zs[k]'(by rw [HZL.out]; omega), by simp [HZL.out, hkN]⟩
      have hcell := (hXk k z hz).1
      obtain ⟨⟨u0, hu0⟩, hfr⟩ := hFk.at hkN
      have HF := hid (hFk.step hkN (u := .int .i64 z) (by simp [hz]))
      have HL := hid (show Later w (wr.setCell ⟨s0, k, none⟩ (.int .i64 z)) from hLk.setCell (by have := HWS.out; simp only; omega) _)
      have HX := hid (hXk.keep (heap_setCell_other wr ⟨s0, k, none⟩ w.heap.size (.int .i64 z) (by have := HWS.out; simp only; omega)))
      clear hFk hXk hLk hz
      go_wp2
      go_roundw
      case rel => exact ⟨k + 1, by omega, by go_num, HF.out, HX.out, HL.out⟩
      case measure => simp [intOf]; omega
    · have hke : k = 3 := by omega
      subst hke
      go_wp2
      go_ret
      have ho := hFk.full (by simp [HZL.out])
      exact ⟨_, rfl, ⟨by rw [HZL.out]; exact ho, fun b hb => (ho.lt b hb).2⟩, hLk⟩

open Go.RowKit Go.Shelf

theorem withSum3_any (n : Int) (w : World) :
    Calls Try.prog 130 #[.int .i64 n] w fun e w' => e = .returned (.func (.func 141) #[] #[.pointer (some ⟨w.heap.size, 0, none⟩)]) ∧ w' = w.alloc (.cells #[.int .i64 n] 3) := by
  go_enter Try.func130, Try.ntmps130
  go_wp2_with fail
  go_ret
  exact ⟨rfl, rfl⟩
set_option maxRecDepth 20000 in
set_option maxHeartbeats 2000000 in
theorem seq3 (n B : Nat) (w : World) (hn : n ≤ 1000000) (hB : B < w.heap.size) (hc : w.cell? ⟨B, 0, none⟩ = some (.int .i64 n)) :
    SeqL 141 #[.pointer (some ⟨B, 0, none⟩)] (Sq.sqL 3 n n) w := by
  intro l J Jx W hW hJ hY h0
  have c0 := (hW.cell (p := ⟨B, 0, none⟩) hB).trans hc
  have HC := hid (each3_0 hJ hY (fun _ => False) [] n n W h0 hn hn (fun b hb => hb.elim) (by simp))
  rw [show (Sq.sqL 3 n n).map (([] : List Int) ++ ·) = Sq.sqL 3 n n by simp] at HC
  show Calls Try.prog _ #[.func (.yield l) #[] #[], .pointer (some ⟨B, 0, none⟩)] W _
  go_enter Try.func141, Try.ntmps141
  go_wp2_with (go_at_call 142; refine HC.out.mono ?_; rintro e w2 (⟨rfl, hJ2, hk2⟩ | ⟨rfl, q, hq, hx⟩))
  · refine bodyPost_end (v := .tuple #[]) (by simp [results, Try.results141, go_sem]) rfl ?_
    exact ⟨⟨_, rfl⟩, .inl (by simpa using hJ2)⟩
  · refine bodyPost_end (v := .tuple #[]) (by simp [results, Try.results141, go_sem]) rfl ?_
    exact ⟨⟨_, rfl⟩, .inr ⟨q, hq, by simpa using hx⟩⟩
theorem enter3 : ∀ args w, (callFunc 141 args).run Try.prog w = .ok (.enter 141 args) w := enters_of Try.func141 (by kernel_rfl) rfl
attribute [local go_sem] Oper.semAt_some in
set_option maxRecDepth 100000 in
set_option maxHeartbeats 4000000 in
theorem first3_in (n : Nat) (most : Int) (w : World) (hn : n ≤ 1000000) (hm : inB 0 most n = true) :
    Calls Try.prog 101 #[.int .i64 n, .int .i64 most] w fun e w' => IntsAns w ((Sq.sqL 3 n n).head?) e w' := by
  refine (callsIn_wide (n := 6)).1 ?_
  refine callsIn_of_wp_marks Try.func101 rfl trivial ?_ rfl
  simp only [Try.ntmps101, List.size_toArray, List.length_cons, List.length_nil, Nat.reduceAdd, Nat.reduceSub, Array.replicate_succ, Array.replicate_zero, List.push_toArray, List.append_toArray, List.nil_append, List.cons_append]
  gi_wp2_with (first
    | (refine ⟨trivial, ?_⟩; gi_at_call 67; refine (callsIn_wide.2 (isSum_as _ _ _ _ hm)).mono ?_; rintro e w2 ⟨rfl, rfl⟩)
    | (refine ⟨trivial, ?_⟩; gi_at_call 130; refine (callsIn_wide.2 (withSum3_any n _)).mono ?_; rintro e w2 ⟨rfl, rfl⟩))
  have HB4 := hid (((Bx.new w (.slice none 0 0) 33).alloc (.cells #[.bool false] 4)).alloc (.cells #[.int .i64 n] 3))
  have HB5 := hid ((Bx.new (w.alloc (.cells #[.slice none 0 0] 33)) (.bool false) 4).alloc (.cells #[.int .i64 n] 3))
  have HB6 := hid (Bx.new ((w.alloc (.cells #[.slice none 0 0] 33)).alloc (.cells #[.bool false] 4)) (.int .i64 n) 3)
  have HLW := hid (((Later.alloc w (.cells #[.slice none 0 0] 33)).trans (Later.alloc _ (.cells #[.bool false] 4))).trans (Later.alloc _ (.cells #[.int .i64 n] 3)))
  have HS := hid (show (((w.alloc (.cells #[.slice none 0 0] 33)).alloc (.cells #[.bool false] 4)).alloc (.cells #[.int .i64 n] 3)).heap.size = w.heap.size + 3 by simp)
  simp only [World.size_alloc] at HB5 HB6
  obtain ⟨W0, hW0⟩ : ∃ W0, ((w.alloc (.cells #[.slice none 0 0] 33)).alloc (.cells #[.bool false] 4)).alloc (.cells #[.int .i64 n] 3) = W0 := ⟨_, rfl⟩
  rw [hW0] at HB4 HB5 HB6 HLW HS ⊢
  obtain ⟨L, hL⟩ : ∃ L, Sq.sqL 3 n n = L := ⟨_, rfl⟩
  have HSQ := hid (seq3 n (w.heap.size + 1 + 1) W0 hn HB6.out.lt HB6.out.c)
  have HM := hid (fun (zs : List Int) (hz : zs ∈ Sq.sqL 3 n n) => (Sq.sqL_mem 3 n n zs hz).1)
  rw [hL] at HSQ HM
  clear hW0
  refine rangeL (p0 := 13) (L := L) rfl rfl enter3 HSQ.out
    (fun P pre W => pre = [] ∧ Bx W w.heap.size (.slice none 0 0) ∧ Bx W (w.heap.size + 1) (.bool false) ∧ ¬ P w.heap.size ∧ ¬ P (w.heap.size + 1) ∧ Later w W ∧ w.heap.size + 3 ≤ W.heap.size ∧ ∀ b, P b → w.heap.size ≤ b)
    (fun c pre W => c = .ret ∧ ∃ x v, pre = [x] ∧ Bx W w.heap.size v ∧ OwnInts w.heap.size W.heap.size W v x ∧ Bx W (w.heap.size + 1) (.bool true) ∧ Later w W)
    ?carr ?iput ?xput ?ialloc ?start 6 ?round ?done ?stop
  case carr => exact
    { new := fun P s W cs t ⟨h1, h2, h3, h4, h5, h6, h7, h8⟩ => ⟨h1, h2.alloc _, h3.alloc _, fun h => h.elim h4 (fun e => by omega), fun h => h.elim h5 (fun e => by omega), h6.trans (Later.alloc _ _), by rw [World.size_alloc]; omega, fun b h => h.elim (h8 b) (fun e => by omega)⟩
      set := fun P s W b k v ⟨h1, h2, h3, h4, h5, h6, h7, h8⟩ hb => ⟨h1, h2.set b k v (fun e => h4 (by rw [e]; exact hb)), h3.set b k v (fun e => h5 (by rw [e]; exact hb)), h4, h5, Below.setCell h6 (h8 b hb) v, by simpa using h7, h8⟩
      weak := fun P P' s W ⟨h1, h2, h3, h4, h5, h6, h7, h8⟩ hp => ⟨h1, h2, h3, fun h => h4 (hp _ h), fun h => h5 (hp _ h), h6, h7, fun b hb => h8 b (hp b hb)⟩ }
  case iput =>
    rintro P s W k o ⟨h1, h2, h3, h4, h5, h6, h7, h8⟩ hk _
    rw [HS.out] at hk
    exact ⟨h1, h2.put k o (by omega), h3.put k o (by omega), h4, h5, below_put h6 (by omega) (by omega) o, by simpa using h7, h8⟩
  case xput =>
    rintro c s W k o ⟨rfl, x, v, h1, h2, h3, h4, h5⟩ hk hn
    rw [HS.out] at hk
    refine ⟨rfl, x, v, h1, h2.put k o (by omega), ⟨ownsRow_keep h3.1 fun b hb => World.putObj_heap_other fun e => ?_, by simpa using h3.2⟩, h4.put k o (by omega), below_put h5 (by omega) h5.size o⟩
    obtain ⟨cur, hc⟩ := ownsRow_block h3.1 hb
    rw [e] at hc
    have := hn _ hc
    cases this
  case ialloc =>
    rintro s W o ⟨h1, h2, h3, h4, h5, h6, h7, h8⟩ _
    exact ⟨h1, h2.alloc _, h3.alloc _, h4, h5, h6.trans (Later.alloc _ _), by rw [World.size_alloc]; omega, h8⟩
  case start => exact ⟨rfl, HB4.out, HB5.out, id, id, HLW.out, by rw [HS.out]; omega, fun b h => h.elim⟩
  case round =>
    rintro m l D P pre x W hD hl hlt hlc hDc hPl hPD ⟨rfl, h2, h3, h4, h5, h6, h7, h8⟩ hx
    have hxl := HM.out x (prefix_mem hx)
    obtain ⟨a0, a1, a2, rfl⟩ : ∃ a0 a1 a2, x = [a0, a1, a2] := by
      match x, hxl with
      | [a0, a1, a2], _ => exact ⟨a0, a1, a2, rfl⟩
    simp only [encV, List.map_cons, List.map_nil]
    gi_wp2
    refine ⟨Below.heap_alloc _ _ _ hlt, ?_⟩
    rintro o W2 hW2 ho
    have hBl : W.heap.size ≠ l := by omega
    have hl2 : W2.heap.size = W.heap.size + 1 := by rw [hW2]; simp
    have HX := hid (show SBox W2 W.heap.size [a0, a1, a2] from by rw [hW2]; exact (SBox.new W [a0, a1, a2] #[.int .i64 a0, .int .i64 a1, .int .i64 a2] 100 rfl).keep (World.putObj_heap_other hBl))
    have H2 := hid (show Bx W2 w.heap.size (.slice none 0 0) by rw [hW2]; exact (h2.alloc _).put _ _ (by rw [hl, HS.out]; omega))
    have H3 := hid (show Bx W2 (w.heap.size + 1) (.bool false) by rw [hW2]; exact (h3.alloc _).put _ _ (by rw [hl, HS.out]; omega))
    have H6 := hid (show Later w W2 by rw [hW2]; exact below_put (h6.trans (Later.alloc _ _)) (by rw [hl, HS.out]; omega) (by rw [World.size_alloc]; omega) o)
    have HD := hid (show W2.heap[D]? = W.heap[D]? by rw [hW2]; exact (World.putObj_heap_other (by omega)).trans (Below.heap_alloc _ _ _ (by omega)))
    have hlD : l = w.heap.size + 4 ∧ D = w.heap.size + 3 := by rw [hl, hD, HS.out]; exact ⟨rfl, rfl⟩
    have HLD := hid hlD
    have hSz : W.heap.size < W2.heap.size := by omega
    have h0s : w.heap.size + 3 ≤ W.heap.size := h7
    clear hW2 h2 h3 h6 hl hD hlD hl2 hlc hDc
    have c0 := (HX.out 0 a0 rfl).1
    have c1 := (HX.out 1 a1 rfl).1
    have c2 := (HX.out 2 a2 rfl).1
    gi_wp2
    refine ⟨trivial, (fun h => (by cases h)), ?_⟩
    refine (CallsIn.inRound l (callsIn_wide.2 (list3_any a0 a1 a2 W2))).mono ?_
    rintro e w3 ⟨v, rfl, hO, hL3⟩
    obtain ⟨p, c, rfl, _⟩ := hO.shape
    have d4 := (H2.out.keep (hL3.block _ (by omega)))
    have d5 := (H3.out.keep (hL3.block _ (by omega)))
    have d4c := d4.c
    have d4f := d4.f
    have d5c := d5.c
    have d5f := d5.f
    gi_wp2
    obtain ⟨hl4, hd3⟩ := HLD.out
    refine ⟨?_, ?_, rfl, [a0, a1, a2], .slice p 3 c, rfl, ?_, ?_, ?_, ?_⟩
    · exact ((heap_setCell_other _ ⟨w.heap.size + 1, 0, none⟩ l _ (by simp only; omega)).trans (heap_setCell_other _ ⟨w.heap.size, 0, none⟩ l _ (by simp only; omega))).trans (hL3.block l (by omega))
    · exact (((heap_setCell_other _ ⟨w.heap.size + 1, 0, none⟩ D _ (by simp only; omega)).trans (heap_setCell_other _ ⟨w.heap.size, 0, none⟩ D _ (by simp only; omega))).trans (hL3.block D (by omega))).trans HD.out
    · exact (d4.store _).set _ _ _ (by omega)
    · refine ⟨ownsRow_keep (ownsRow_base hO.1 (by omega)) fun b hb => ?_, by simpa using hO.2⟩
      have h9 := (hO.1.lt b hb).1
      exact (heap_setCell_other _ ⟨w.heap.size + 1, 0, none⟩ b _ (by simp only; omega)).trans (heap_setCell_other _ ⟨w.heap.size, 0, none⟩ b _ (by simp only; omega))
    · exact (d5.set _ _ _ (by omega)).store _
    · exact Below.setCell (Below.setCell (H6.out.trans hL3) (Nat.le_refl _) _) (by simp only; omega) _
  case done =>
    rintro W ⟨h1, h2, h3, _, _, h6, h7, _⟩ hK hlt
    have HE := hid (show (Sq.sqL 3 n n).head? = none by rw [hL, h1]; rfl)
    rw [hL] at HE
    have d4c := h2.c
    have d4f := h2.f
    have d5c := h3.c
    have d5f := h3.f
    gi_wp2
    have hKf : ((W.setCell ⟨w.heap.size, 0, none⟩ (.slice none 0 0)).setCell ⟨w.heap.size + 1, 0, none⟩ (.bool false)).heap[W0.heap.size]? = some (.deferred (some [])) :=
      ((heap_setCell_other _ ⟨w.heap.size + 1, 0, none⟩ _ _ (by have := HS.out; simp only; omega)).trans (heap_setCell_other _ ⟨w.heap.size, 0, none⟩ _ _ (by have := HS.out; simp only; omega))).trans hK
    have g4 := ((h2.store (.slice none 0 0)).set (w.heap.size + 1) 0 (.bool false) (by omega)).put W0.heap.size (.deferred none) (by have := HS.out; omega)
    have g5 := ((h3.set w.heap.size 0 (.slice none 0 0) (by omega)).store (.bool false)).put W0.heap.size (.deferred none) (by have := HS.out; omega)
    have g4c := g4.c
    have g5c := g5.c
    have HLf := hid (below_put (Below.setCell (Below.setCell (p := ⟨w.heap.size, 0, none⟩) h6 (Nat.le_refl _) (.slice none 0 0)) (p := ⟨w.heap.size + 1, 0, none⟩) (by simp only; omega) (.bool false)) (k := W0.heap.size) (by have := HS.out; omega) (by simp; omega) (.deferred none))
    refine ⟨by simp, .inl ⟨_, _, rfl, run_takeDeferred hKf, ?_⟩⟩
    refine ⟨.tuple #[.slice none 0 0, .bool false], ?_, ?_⟩
    · rw [results_cells2 rfl]
      go_simp
    · exact ⟨_, rfl, ⟨World.ownsRow_nil _ _ _ _, fun b hb => by simp [Value.ownBlock] at hb⟩, HLf.out⟩
  case stop =>
    rintro c q W hq ⟨rfl, x, v, rfl, h2, h3, h4, h5⟩ hK hlt
    have HE := hid (show (Sq.sqL 3 n n).head? = some x by rw [hL]; obtain ⟨t, ht⟩ := hq; rw [← ht]; rfl)
    gi_wp2
    have g4 := h2.put W0.heap.size (.deferred none) (by have := HS.out; omega)
    have g5 := h4.put W0.heap.size (.deferred none) (by have := HS.out; omega)
    have g4c := g4.c
    have g5c := g5.c
    have HLf := hid (below_put h5 (k := W0.heap.size) (by have := HS.out; omega) h5.size (.deferred none))
    refine ⟨by simp, .inl ⟨_, _, rfl, run_takeDeferred hK, ?_⟩⟩
    refine ⟨.tuple #[v, .bool true], ?_, ?_⟩
    · rw [results_cells2 rfl]
      go_simp
    · rw [HE.out]
      refine ⟨v, rfl, ⟨ownsRow_keep h3.1 fun b hb => World.putObj_heap_other fun e => ?_, by simpa using h3.2⟩, HLf.out⟩
      obtain ⟨cur, hc⟩ := ownsRow_block h3.1 hb
      rw [e, hK] at hc
      cases hc
end Go.Proofs.Ytofmmegpadojlaa
