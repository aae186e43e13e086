/- Lists of squares in the program: eachFrom with 4 numbers, an index after the other. -/
import Derived.Test.YtcgdegmhajfbaabSqT
namespace Go.Proofs.Ytcgdegmhajfbaab
open Go.RowKit Go.Shelf

attribute [local go_sem] Oper.semAt_some in
set_option maxRecDepth 100000 in
set_option maxHeartbeats 2000000 in
theorem each4_4 {J : (Nat → Prop) → List (List Int) → World → Prop} {Jx : List (List Int) → World → Prop} (hJ : Carr J) {l : Nat} {L : List (List Int)} (hY : Yields l L J Jx) (x0 x1 x2 x3 : Int)
    (P : Nat → Prop) (pre : List (List Int)) (rest most : Nat) (W : World) (h : J P pre W) (hP : ∀ b, P b → b < W.heap.size) (hL : pre ++ [[x0, x1, x2, x3]] <+: L) :
    Calls Try.prog 63 #[.agg #[.int .i64 x0, .int .i64 x1, .int .i64 x2, .int .i64 x3], .int .i64 4, .int .i64 rest, .int .i64 most, .func (.yield l) #[] #[]] W fun e W' => Went J Jx P pre [[x0, x1, x2, x3]] W e W' := by
  have hY1 := hY 5 _ pre [x0, x1, x2, x3] _ (hJ.new P pre W #[.int .i64 x0, .int .i64 x1, .int .i64 x2, .int .i64 x3] 66 h) hL
  have HB := hid (SBox.new W [x0, x1, x2, x3] #[.int .i64 x0, .int .i64 x1, .int .i64 x2, .int .i64 x3] 66 rfl)
  have HK := hid (fun b (hb : P b) => Below.heap_alloc W (.cells #[.int .i64 x0, .int .i64 x1, .int .i64 x2, .int .i64 x3] 66) b (hP b hb))
  have c0 := (HB.out 0 x0 rfl).1
  have c1 := (HB.out 1 x1 rfl).1
  have c2 := (HB.out 2 x2 rfl).1
  have c3 := (HB.out 3 x3 rfl).1
  refine (callsIn_wide (n := 6)).1 ?_
  refine callsIn_of_wp Try.func63 rfl trivial ?_ rfl
  simp only [Try.ntmps63, List.size_toArray, List.length_cons, List.length_nil, Nat.reduceAdd, Nat.reduceSub, Array.replicate_succ, Array.replicate_zero, List.push_toArray, List.append_toArray, List.nil_append, List.cons_append]
  obtain ⟨fn, tmps, assign, body, hy, hR⟩ := hY1
  simp only [encV, List.map_cons, List.map_nil] at hy
  have HR := hid hR
  clear hR
  gi_wp2_with ((try refine ⟨fun _ => trivial, ?_⟩); refine HR.out.mono ?_; rintro e W2 (⟨rfl, hJ2, hk2⟩ | ⟨rfl, hx2⟩))
  · go_ret
    exact .inl ⟨rfl, hJ.weak _ _ _ _ hJ2 (fun b hb => .inl hb), fun b hb => (hk2 b (.inl hb)).trans (HK.out b hb)⟩
  · go_ret
    exact .inr ⟨rfl, _, List.prefix_refl _, hx2⟩

set_option maxRecDepth 20000 in
set_option maxHeartbeats 4000000 in
theorem each4_3 {J : (Nat → Prop) → List (List Int) → World → Prop} {Jx : List (List Int) → World → Prop} (hJ : Carr J) {l : Nat} {L : List (List Int)} (hY : Yields l L J Jx) (x0 x1 x2 : Int)
    (P : Nat → Prop) (pre : List (List Int)) (rest most : Nat) (W : World) (h : J P pre W) (hrest : rest ≤ 1000000) (hmost : most ≤ 1000000) (hP : ∀ b, P b → b < W.heap.size) (hL : pre ++ (Sq.sqL 1 rest most).map ([x0, x1, x2] ++ ·) <+: L) :
    Calls Try.prog 63 #[.agg #[.int .i64 x0, .int .i64 x1, .int .i64 x2, .int .i64 0], .int .i64 3, .int .i64 rest, .int .i64 most, .func (.yield l) #[] #[]] W fun e W' => Went J Jx P pre ((Sq.sqL 1 rest most).map ([x0, x1, x2] ++ ·)) W e W' := by
  rw [← lpM_all] at hL ⊢
  have HRT := hid (fun w => rootOf9_any rest w hrest)
  have hrr := rootN_le hrest
  obtain ⟨X, hX⟩ : ∃ X, min most (rootN rest) = X := ⟨_, rfl⟩
  rw [hX] at hL ⊢
  have hX3 : X ≤ 1000 := by omega
  have HXR := hid (show X * X ≤ rest by
    have := Nat.mul_le_mul (show X ≤ rootN rest by omega) (show X ≤ rootN rest by omega)
    have := (rootN_spec rest).1; omega)
  obtain ⟨Z, hZ⟩ : ∃ Z, lpM [x0, x1, x2] 0 rest (X + 1) = Z := ⟨_, rfl⟩
  rw [hZ] at hL ⊢
  have HZ0 := hid hZ
  have HL := hid hL
  have HP := hid hP
  have HJ1 := hid (hJ.new P pre W #[.int .i64 x0, .int .i64 x1, .int .i64 x2, .int .i64 0] 66 h)
  have HB0 := hid (SBox.new W [x0, x1, x2, 0] #[.int .i64 x0, .int .i64 x1, .int .i64 x2, .int .i64 0] 66 rfl)
  have HK0 := hid (fun b (hb : P b) => Below.heap_alloc W (.cells #[.int .i64 x0, .int .i64 x1, .int .i64 x2, .int .i64 0] 66) b (hP b hb))
  have c0 := (HB0.out 0 x0 rfl).1
  have c1 := (HB0.out 1 x1 rfl).1
  have c2 := (HB0.out 2 x2 rfl).1
  have c3 := (HB0.out 3 0 rfl).1
  have HB0s := hid (show (W.alloc (.cells #[.int .i64 x0, .int .i64 x1, .int .i64 x2, .int .i64 0] 66)).heap.size = W.heap.size + 1 by simp)
  obtain ⟨R, hR⟩ : ∃ R, rootN rest = R := ⟨_, rfl⟩
  rw [hR] at HRT hX hrr
  clear h hP hL hZ hR
  have key : (X = R ∧ (R : Int) ≤ (most : Int)) ∨ (X = most ∧ ¬ (R : Int) ≤ (most : Int)) := by omega
  clear hX
  rcases key with ⟨hXe, hle0⟩ | ⟨hXe, hle0⟩
  · subst hXe
    go_enter Try.func63, Try.ntmps63
    go_wp2_with (go_at_call 65; refine (HRT.out _).mono ?_; rintro e w2 ⟨rfl, rfl⟩)
    clear c0 c1 c2 c3
    obtain ⟨B, hB⟩ : ∃ B, W.heap.size = B := ⟨_, rfl⟩
    rw [hB] at HB0 HB0s ⊢
    have HBB := hid hB
    clear hB
    go_loopw [14] (fun o wr => ∃ (y : Nat) (D : List (List Int)) (z : Int), y ≤ X + 1 ∧ o = .int .i64 ((y : Int) - 1) ∧ J (fun b => P b ∨ b = B) (pre ++ D) wr ∧ D ++ lpM [x0, x1, x2] 0 rest y = Z ∧ SBox wr B [x0, x1, x2, z] ∧ B < wr.heap.size ∧ ∀ b, P b → wr.heap[b]? = W.heap[b]?) (fun o _ => (intOf o + 1).toNat)
    case atStart => exact ⟨X + 1, [], 0, Nat.le_refl _, by simp, by simpa [HBB.out] using HJ1.out, by simpa using HZ0.out, HB0.out, by rw [HB0s.out]; omega, HK0.out⟩
    case round =>
      obtain ⟨y, D, z, hy, rfl, hJr, hDr, hBr, hBs, hKr⟩ := hrel
      have HJr := hid hJr
      have HDr := hid hDr
      have HBr := hid hBr
      have HBs := hid hBs
      have HKr := hid hKr
      clear hJr hDr hBr hBs hKr
      by_cases h0 : y = 0
      · subst h0
        have HN := hid (show D = Z by rw [← HDr.out]; simp [lpM, lpY])
        go_wp2_with fail
        go_ret
        exact .inl ⟨rfl, by rw [← HN.out]; exact hJ.weak _ _ _ _ HJr.out (fun b hb => .inl hb), HKr.out⟩
      · obtain ⟨x, rfl⟩ : ∃ x, y = x + 1 := ⟨y - 1, by omega⟩
        rw [show ((x + 1 : Nat) : Int) - 1 = (x : Int) by omega]
        have hxX : x ≤ X := by omega
        have hxx : 0 ≤ (x : Int) * (x : Int) ∧ (x : Int) * (x : Int) ≤ 1000000 := by
          have := Nat.mul_le_mul (show x ≤ 1000 by omega) (show x ≤ 1000 by omega)
          rw [← Int.natCast_mul]; omega
        have hkx : 1 * (x : Int) * (x : Int) = 1 * ((x : Int) * (x : Int)) := Int.mul_assoc _ _ _
        have hkxx : 0 ≤ 1 * (x : Int) * (x : Int) ∧ 1 * (x : Int) * (x : Int) ≤ 4000000 := by omega
        by_cases hst : (rest : Int) ≤ 1 * (x : Int) * (x : Int)
        · have HST := hid (show sqStop 0 rest x = false from decide_eq_false (by
            have h3 : ((0 + 1) * x * x : Nat) = 1 * (x * x) := by rw [Nat.mul_assoc]
            rw [h3]
            rw [hkx, ← Int.natCast_mul] at hst; omega))
          have hxr : x * x ≤ rest := by
            have h1 := Nat.mul_le_mul hxX hxX
            have h2 := HXR.out
            omega
          obtain ⟨m, hm⟩ : ∃ m, rest - x * x = m := ⟨_, rfl⟩
          have hnx : (rest : Int) - (x : Int) * (x : Int) = (m : Int) := by rw [← Int.natCast_mul]; omega
          have hm6 : m ≤ 1000000 := by omega
          have hrx : rest - x * x = 0 := by rw [hkx, ← Int.natCast_mul] at hst; omega
          have HZ := hid (show lpM [x0, x1, x2] 0 rest (x + 1) = [[x0, x1, x2, (x : Int)]] ++ lpM [x0, x1, x2] 0 rest x by rw [lpM_go HST.out, hrx]; rfl)
          have c3 := HBr.out 3 z rfl
          have HB2 := hid (HBr.out.set 3 (x : Int))
          have HJ2 := hid (hJ.set _ _ _ B 3 (.int .i64 (x : Int)) HJr.out (.inr rfl))
          have HS2 := hid (show (wr.setCell ⟨B, 3, none⟩ (.int .i64 (x : Int))).heap.size = wr.heap.size by simp)
          have HK2 := hid (fun b (hb : P b) => (heap_setCell_other wr ⟨B, 3, none⟩ b (.int .i64 (x : Int)) (by have h1 := HP.out b hb; have h2 := HBB.out; simp only; omega)).trans (HKr.out b hb))
          have HC := hid (each4_4 hJ hY x0 x1 x2 x (fun b => P b ∨ b = B) (pre ++ D) m x _ HJ2.out (by
            intro b hb
            rw [HS2.out]
            rcases hb with hb | rfl
            · have h1 := HP.out b hb; have h2 := HBs.out; have h3 := HBB.out; omega
            · exact HBs.out) (by
            have h1 := HL.out
            rw [← HDr.out, HZ.out] at h1
            exact pre_part h1))
          obtain ⟨cc3, ff3⟩ := c3
          have d0 := (HB2.out 0 x0 rfl).1
          have d1 := (HB2.out 1 x1 rfl).1
          have d2 := (HB2.out 2 x2 rfl).1
          have d3 := (HB2.out 3 (x : Int) rfl).1
          clear hm HST
          go_wp2_with (go_at_call 63; refine HC.out.mono ?_; rintro e w3 (⟨rfl, hJ3, hk3⟩ | ⟨rfl, q, hq, hx3⟩))
          · have HB3 := hid (SBox.keep HB2.out (hk3 B (.inr rfl)))
            have HS3 := hid (show B < w3.heap.size from World.block_lt_of_cell? w3 ⟨B, 3, none⟩ (HB3.out 3 x rfl).1)
            go_roundw
            case rel => exact ⟨x, D ++ [[x0, x1, x2, (x : Int)]], x, by omega, by go_num, by rw [← List.append_assoc]; exact hJ3, by rw [List.append_assoc, ← HZ.out]; exact HDr.out, HB3.out, HS3.out, fun b hb => (hk3 b (.inl hb)).trans (HK2.out b hb)⟩
            case measure => simp [intOf]
          · go_ret
            refine .inr ⟨rfl, D ++ q, ?_, by rw [← List.append_assoc]; exact hx3⟩
            rw [← HDr.out, HZ.out]
            obtain ⟨t, ht⟩ := hq
            exact ⟨t ++ lpM [x0, x1, x2] 0 rest x, by rw [← ht]; simp⟩
        · have hst' : decide ((rest : Int) ≤ 1 * (x : Int) * (x : Int)) = false := decide_eq_false hst
          have HN := hid (show D = Z by
            rw [← HDr.out, lpM_stop (decide_eq_true (by
              have h3 : ((0 + 1) * x * x : Nat) = 1 * (x * x) := by rw [Nat.mul_assoc]
              rw [h3]
              rw [hkx, ← Int.natCast_mul] at hst; omega))]; simp)
          go_wp2_with fail
          go_ret
          exact .inl ⟨rfl, by rw [← HN.out]; exact hJ.weak _ _ _ _ HJr.out (fun b hb => .inl hb), HKr.out⟩
  · subst hXe
    go_enter Try.func63, Try.ntmps63
    go_wp2_with (go_at_call 65; refine (HRT.out _).mono ?_; rintro e w2 ⟨rfl, rfl⟩)
    clear c0 c1 c2 c3
    obtain ⟨B, hB⟩ : ∃ B, W.heap.size = B := ⟨_, rfl⟩
    rw [hB] at HB0 HB0s ⊢
    have HBB := hid hB
    clear hB
    go_loopw [14] (fun o wr => ∃ (y : Nat) (D : List (List Int)) (z : Int), y ≤ X + 1 ∧ o = .int .i64 ((y : Int) - 1) ∧ J (fun b => P b ∨ b = B) (pre ++ D) wr ∧ D ++ lpM [x0, x1, x2] 0 rest y = Z ∧ SBox wr B [x0, x1, x2, z] ∧ B < wr.heap.size ∧ ∀ b, P b → wr.heap[b]? = W.heap[b]?) (fun o _ => (intOf o + 1).toNat)
    case atStart => exact ⟨X + 1, [], 0, Nat.le_refl _, by simp, by simpa [HBB.out] using HJ1.out, by simpa using HZ0.out, HB0.out, by rw [HB0s.out]; omega, HK0.out⟩
    case round =>
      obtain ⟨y, D, z, hy, rfl, hJr, hDr, hBr, hBs, hKr⟩ := hrel
      have HJr := hid hJr
      have HDr := hid hDr
      have HBr := hid hBr
      have HBs := hid hBs
      have HKr := hid hKr
      clear hJr hDr hBr hBs hKr
      by_cases h0 : y = 0
      · subst h0
        have HN := hid (show D = Z by rw [← HDr.out]; simp [lpM, lpY])
        go_wp2_with fail
        go_ret
        exact .inl ⟨rfl, by rw [← HN.out]; exact hJ.weak _ _ _ _ HJr.out (fun b hb => .inl hb), HKr.out⟩
      · obtain ⟨x, rfl⟩ : ∃ x, y = x + 1 := ⟨y - 1, by omega⟩
        rw [show ((x + 1 : Nat) : Int) - 1 = (x : Int) by omega]
        have hxX : x ≤ X := by omega
        have hxx : 0 ≤ (x : Int) * (x : Int) ∧ (x : Int) * (x : Int) ≤ 1000000 := by
          have := Nat.mul_le_mul (show x ≤ 1000 by omega) (show x ≤ 1000 by omega)
          rw [← Int.natCast_mul]; omega
        have hkx : 1 * (x : Int) * (x : Int) = 1 * ((x : Int) * (x : Int)) := Int.mul_assoc _ _ _
        have hkxx : 0 ≤ 1 * (x : Int) * (x : Int) ∧ 1 * (x : Int) * (x : Int) ≤ 4000000 := by omega
        by_cases hst : (rest : Int) ≤ 1 * (x : Int) * (x : Int)
        · have HST := hid (show sqStop 0 rest x = false from decide_eq_false (by
            have h3 : ((0 + 1) * x * x : Nat) = 1 * (x * x) := by rw [Nat.mul_assoc]
            rw [h3]
            rw [hkx, ← Int.natCast_mul] at hst; omega))
          have hxr : x * x ≤ rest := by
            have h1 := Nat.mul_le_mul hxX hxX
            have h2 := HXR.out
            omega
          obtain ⟨m, hm⟩ : ∃ m, rest - x * x = m := ⟨_, rfl⟩
          have hnx : (rest : Int) - (x : Int) * (x : Int) = (m : Int) := by rw [← Int.natCast_mul]; omega
          have hm6 : m ≤ 1000000 := by omega
          have hrx : rest - x * x = 0 := by rw [hkx, ← Int.natCast_mul] at hst; omega
          have HZ := hid (show lpM [x0, x1, x2] 0 rest (x + 1) = [[x0, x1, x2, (x : Int)]] ++ lpM [x0, x1, x2] 0 rest x by rw [lpM_go HST.out, hrx]; rfl)
          have c3 := HBr.out 3 z rfl
          have HB2 := hid (HBr.out.set 3 (x : Int))
          have HJ2 := hid (hJ.set _ _ _ B 3 (.int .i64 (x : Int)) HJr.out (.inr rfl))
          have HS2 := hid (show (wr.setCell ⟨B, 3, none⟩ (.int .i64 (x : Int))).heap.size = wr.heap.size by simp)
          have HK2 := hid (fun b (hb : P b) => (heap_setCell_other wr ⟨B, 3, none⟩ b (.int .i64 (x : Int)) (by have h1 := HP.out b hb; have h2 := HBB.out; simp only; omega)).trans (HKr.out b hb))
          have HC := hid (each4_4 hJ hY x0 x1 x2 x (fun b => P b ∨ b = B) (pre ++ D) m x _ HJ2.out (by
            intro b hb
            rw [HS2.out]
            rcases hb with hb | rfl
            · have h1 := HP.out b hb; have h2 := HBs.out; have h3 := HBB.out; omega
            · exact HBs.out) (by
            have h1 := HL.out
            rw [← HDr.out, HZ.out] at h1
            exact pre_part h1))
          obtain ⟨cc3, ff3⟩ := c3
          have d0 := (HB2.out 0 x0 rfl).1
          have d1 := (HB2.out 1 x1 rfl).1
          have d2 := (HB2.out 2 x2 rfl).1
          have d3 := (HB2.out 3 (x : Int) rfl).1
          clear hm HST
          go_wp2_with (go_at_call 63; refine HC.out.mono ?_; rintro e w3 (⟨rfl, hJ3, hk3⟩ | ⟨rfl, q, hq, hx3⟩))
          · have HB3 := hid (SBox.keep HB2.out (hk3 B (.inr rfl)))
            have HS3 := hid (show B < w3.heap.size from World.block_lt_of_cell? w3 ⟨B, 3, none⟩ (HB3.out 3 x rfl).1)
            go_roundw
            case rel => exact ⟨x, D ++ [[x0, x1, x2, (x : Int)]], x, by omega, by go_num, by rw [← List.append_assoc]; exact hJ3, by rw [List.append_assoc, ← HZ.out]; exact HDr.out, HB3.out, HS3.out, fun b hb => (hk3 b (.inl hb)).trans (HK2.out b hb)⟩
            case measure => simp [intOf]
          · go_ret
            refine .inr ⟨rfl, D ++ q, ?_, by rw [← List.append_assoc]; exact hx3⟩
            rw [← HDr.out, HZ.out]
            obtain ⟨t, ht⟩ := hq
            exact ⟨t ++ lpM [x0, x1, x2] 0 rest x, by rw [← ht]; simp⟩
        · have hst' : decide ((rest : Int) ≤ 1 * (x : Int) * (x : Int)) = false := decide_eq_false hst
          have HN := hid (show D = Z by
            rw [← HDr.out, lpM_stop (decide_eq_true (by
              have h3 : ((0 + 1) * x * x : Nat) = 1 * (x * x) := by rw [Nat.mul_assoc]
              rw [h3]
              rw [hkx, ← Int.natCast_mul] at hst; omega))]; simp)
          go_wp2_with fail
          go_ret
          exact .inl ⟨rfl, by rw [← HN.out]; exact hJ.weak _ _ _ _ HJr.out (fun b hb => .inl hb), HKr.out⟩

set_option maxRecDepth 20000 in
set_option maxHeartbeats 4000000 in
theorem each4_2 {J : (Nat → Prop) → List (List Int) → World → Prop} {Jx : List (List Int) → World → Prop} (hJ : Carr J) {l : Nat} {L : List (List Int)} (hY : Yields l L J Jx) (x0 x1 : Int)
    (P : Nat → Prop) (pre : List (List Int)) (rest most : Nat) (W : World) (h : J P pre W) (hrest : rest ≤ 1000000) (hmost : most ≤ 1000000) (hP : ∀ b, P b → b < W.heap.size) (hL : pre ++ (Sq.sqL 2 rest most).map ([x0, x1] ++ ·) <+: L) :
    Calls Try.prog 63 #[.agg #[.int .i64 x0, .int .i64 x1, .int .i64 0, .int .i64 0], .int .i64 2, .int .i64 rest, .int .i64 most, .func (.yield l) #[] #[]] W fun e W' => Went J Jx P pre ((Sq.sqL 2 rest most).map ([x0, x1] ++ ·)) W e W' := by
  rw [← lpM_all] at hL ⊢
  have HRT := hid (fun w => rootOf9_any rest w hrest)
  have hrr := rootN_le hrest
  obtain ⟨X, hX⟩ : ∃ X, min most (rootN rest) = X := ⟨_, rfl⟩
  rw [hX] at hL ⊢
  have hX3 : X ≤ 1000 := by omega
  have HXR := hid (show X * X ≤ rest by
    have := Nat.mul_le_mul (show X ≤ rootN rest by omega) (show X ≤ rootN rest by omega)
    have := (rootN_spec rest).1; omega)
  obtain ⟨Z, hZ⟩ : ∃ Z, lpM [x0, x1] 1 rest (X + 1) = Z := ⟨_, rfl⟩
  rw [hZ] at hL ⊢
  have HZ0 := hid hZ
  have HL := hid hL
  have HP := hid hP
  have HJ1 := hid (hJ.new P pre W #[.int .i64 x0, .int .i64 x1, .int .i64 0, .int .i64 0] 66 h)
  have HB0 := hid (SBox.new W [x0, x1, 0, 0] #[.int .i64 x0, .int .i64 x1, .int .i64 0, .int .i64 0] 66 rfl)
  have HK0 := hid (fun b (hb : P b) => Below.heap_alloc W (.cells #[.int .i64 x0, .int .i64 x1, .int .i64 0, .int .i64 0] 66) b (hP b hb))
  have c0 := (HB0.out 0 x0 rfl).1
  have c1 := (HB0.out 1 x1 rfl).1
  have c2 := (HB0.out 2 0 rfl).1
  have c3 := (HB0.out 3 0 rfl).1
  have HB0s := hid (show (W.alloc (.cells #[.int .i64 x0, .int .i64 x1, .int .i64 0, .int .i64 0] 66)).heap.size = W.heap.size + 1 by simp)
  obtain ⟨R, hR⟩ : ∃ R, rootN rest = R := ⟨_, rfl⟩
  rw [hR] at HRT hX hrr
  clear h hP hL hZ hR
  have key : (X = R ∧ (R : Int) ≤ (most : Int)) ∨ (X = most ∧ ¬ (R : Int) ≤ (most : Int)) := by omega
  clear hX
  rcases key with ⟨hXe, hle0⟩ | ⟨hXe, hle0⟩
  · subst hXe
    go_enter Try.func63, Try.ntmps63
    go_wp2_with (go_at_call 65; refine (HRT.out _).mono ?_; rintro e w2 ⟨rfl, rfl⟩)
    clear c0 c1 c2 c3
    obtain ⟨B, hB⟩ : ∃ B, W.heap.size = B := ⟨_, rfl⟩
    rw [hB] at HB0 HB0s ⊢
    have HBB := hid hB
    clear hB
    go_loopw [14] (fun o wr => ∃ (y : Nat) (D : List (List Int)) (z : Int), y ≤ X + 1 ∧ o = .int .i64 ((y : Int) - 1) ∧ J (fun b => P b ∨ b = B) (pre ++ D) wr ∧ D ++ lpM [x0, x1] 1 rest y = Z ∧ SBox wr B [x0, x1, z, 0] ∧ B < wr.heap.size ∧ ∀ b, P b → wr.heap[b]? = W.heap[b]?) (fun o _ => (intOf o + 1).toNat)
    case atStart => exact ⟨X + 1, [], 0, Nat.le_refl _, by simp, by simpa [HBB.out] using HJ1.out, by simpa using HZ0.out, HB0.out, by rw [HB0s.out]; omega, HK0.out⟩
    case round =>
      obtain ⟨y, D, z, hy, rfl, hJr, hDr, hBr, hBs, hKr⟩ := hrel
      have HJr := hid hJr
      have HDr := hid hDr
      have HBr := hid hBr
      have HBs := hid hBs
      have HKr := hid hKr
      clear hJr hDr hBr hBs hKr
      by_cases h0 : y = 0
      · subst h0
        have HN := hid (show D = Z by rw [← HDr.out]; simp [lpM, lpY])
        go_wp2_with fail
        go_ret
        exact .inl ⟨rfl, by rw [← HN.out]; exact hJ.weak _ _ _ _ HJr.out (fun b hb => .inl hb), HKr.out⟩
      · obtain ⟨x, rfl⟩ : ∃ x, y = x + 1 := ⟨y - 1, by omega⟩
        rw [show ((x + 1 : Nat) : Int) - 1 = (x : Int) by omega]
        have hxX : x ≤ X := by omega
        have hxx : 0 ≤ (x : Int) * (x : Int) ∧ (x : Int) * (x : Int) ≤ 1000000 := by
          have := Nat.mul_le_mul (show x ≤ 1000 by omega) (show x ≤ 1000 by omega)
          rw [← Int.natCast_mul]; omega
        have hkx : 2 * (x : Int) * (x : Int) = 2 * ((x : Int) * (x : Int)) := Int.mul_assoc _ _ _
        have hkxx : 0 ≤ 2 * (x : Int) * (x : Int) ∧ 2 * (x : Int) * (x : Int) ≤ 4000000 := by omega
        by_cases hst : (rest : Int) ≤ 2 * (x : Int) * (x : Int)
        · have HST := hid (show sqStop 1 rest x = false from decide_eq_false (by
            have h3 : ((1 + 1) * x * x : Nat) = 2 * (x * x) := by rw [Nat.mul_assoc]
            rw [h3]
            rw [hkx, ← Int.natCast_mul] at hst; omega))
          have hxr : x * x ≤ rest := by
            have h1 := Nat.mul_le_mul hxX hxX
            have h2 := HXR.out
            omega
          obtain ⟨m, hm⟩ : ∃ m, rest - x * x = m := ⟨_, rfl⟩
          have hnx : (rest : Int) - (x : Int) * (x : Int) = (m : Int) := by rw [← Int.natCast_mul]; omega
          have hm6 : m ≤ 1000000 := by omega
          have HZ := hid (show lpM [x0, x1] 1 rest (x + 1) = ((Sq.sqL 1 m x).map ([x0, x1, (x : Int)] ++ ·)) ++ lpM [x0, x1] 1 rest x by rw [lpM_go HST.out, hm]; rfl)
          have c2 := HBr.out 2 z rfl
          have HB2 := hid (HBr.out.set 2 (x : Int))
          have HJ2 := hid (hJ.set _ _ _ B 2 (.int .i64 (x : Int)) HJr.out (.inr rfl))
          have HS2 := hid (show (wr.setCell ⟨B, 2, none⟩ (.int .i64 (x : Int))).heap.size = wr.heap.size by simp)
          have HK2 := hid (fun b (hb : P b) => (heap_setCell_other wr ⟨B, 2, none⟩ b (.int .i64 (x : Int)) (by have h1 := HP.out b hb; have h2 := HBB.out; simp only; omega)).trans (HKr.out b hb))
          have HC := hid (each4_3 hJ hY x0 x1 x (fun b => P b ∨ b = B) (pre ++ D) m x _ HJ2.out (by omega) (by omega) (by
            intro b hb
            rw [HS2.out]
            rcases hb with hb | rfl
            · have h1 := HP.out b hb; have h2 := HBs.out; have h3 := HBB.out; omega
            · exact HBs.out) (by
            have h1 := HL.out
            rw [← HDr.out, HZ.out] at h1
            exact pre_part h1))
          obtain ⟨cc2, ff2⟩ := c2
          have d0 := (HB2.out 0 x0 rfl).1
          have d1 := (HB2.out 1 x1 rfl).1
          have d2 := (HB2.out 2 (x : Int) rfl).1
          have d3 := (HB2.out 3 0 rfl).1
          clear hm HST
          go_wp2_with (go_at_call 63; refine HC.out.mono ?_; rintro e w3 (⟨rfl, hJ3, hk3⟩ | ⟨rfl, q, hq, hx3⟩))
          · have HB3 := hid (SBox.keep HB2.out (hk3 B (.inr rfl)))
            have HS3 := hid (show B < w3.heap.size from World.block_lt_of_cell? w3 ⟨B, 2, none⟩ (HB3.out 2 x rfl).1)
            go_roundw
            case rel => exact ⟨x, D ++ ((Sq.sqL 1 m x).map ([x0, x1, (x : Int)] ++ ·)), x, by omega, by go_num, by rw [← List.append_assoc]; exact hJ3, by rw [List.append_assoc, ← HZ.out]; exact HDr.out, HB3.out, HS3.out, fun b hb => (hk3 b (.inl hb)).trans (HK2.out b hb)⟩
            case measure => simp [intOf]
          · go_ret
            refine .inr ⟨rfl, D ++ q, ?_, by rw [← List.append_assoc]; exact hx3⟩
            rw [← HDr.out, HZ.out]
            obtain ⟨t, ht⟩ := hq
            exact ⟨t ++ lpM [x0, x1] 1 rest x, by rw [← ht]; simp⟩
        · have hst' : decide ((rest : Int) ≤ 2 * (x : Int) * (x : Int)) = false := decide_eq_false hst
          have HN := hid (show D = Z by
            rw [← HDr.out, lpM_stop (decide_eq_true (by
              have h3 : ((1 + 1) * x * x : Nat) = 2 * (x * x) := by rw [Nat.mul_assoc]
              rw [h3]
              rw [hkx, ← Int.natCast_mul] at hst; omega))]; simp)
          go_wp2_with fail
          go_ret
          exact .inl ⟨rfl, by rw [← HN.out]; exact hJ.weak _ _ _ _ HJr.out (fun b hb => .inl hb), HKr.out⟩
  · subst hXe
    go_enter Try.func63, Try.ntmps63
    go_wp2_with (go_at_call 65; refine (HRT.out _).mono ?_; rintro e w2 ⟨rfl, rfl⟩)
    clear c0 c1 c2 c3
    obtain ⟨B, hB⟩ : ∃ B, W.heap.size = B := ⟨_, rfl⟩
    rw [hB] at HB0 HB0s ⊢
    have HBB := hid hB
    clear hB
    go_loopw [14] (fun o wr => ∃ (y : Nat) (D : List (List Int)) (z : Int), y ≤ X + 1 ∧ o = .int .i64 ((y : Int) - 1) ∧ J (fun b => P b ∨ b = B) (pre ++ D) wr ∧ D ++ lpM [x0, x1] 1 rest y = Z ∧ SBox wr B [x0, x1, z, 0] ∧ B < wr.heap.size ∧ ∀ b, P b → wr.heap[b]? = W.heap[b]?) (fun o _ => (intOf o + 1).toNat)
    case atStart => exact ⟨X + 1, [], 0, Nat.le_refl _, by simp, by simpa [HBB.out] using HJ1.out, by simpa using HZ0.out, HB0.out, by rw [HB0s.out]; omega, HK0.out⟩
    case round =>
      obtain ⟨y, D, z, hy, rfl, hJr, hDr, hBr, hBs, hKr⟩ := hrel
      have HJr := hid hJr
      have HDr := hid hDr
      have HBr := hid hBr
      have HBs := hid hBs
      have HKr := hid hKr
      clear hJr hDr hBr hBs hKr
      by_cases h0 : y = 0
      · subst h0
        have HN := hid (show D = Z by rw [← HDr.out]; simp [lpM, lpY])
        go_wp2_with fail
        go_ret
        exact .inl ⟨rfl, by rw [← HN.out]; exact hJ.weak _ _ _ _ HJr.out (fun b hb => .inl hb), HKr.out⟩
      · obtain ⟨x, rfl⟩ : ∃ x, y = x + 1 := ⟨y - 1, by omega⟩
        rw [show ((x + 1 : Nat) : Int) - 1 = (x : Int) by omega]
        have hxX : x ≤ X := by omega
        have hxx : 0 ≤ (x : Int) * (x : Int) ∧ (x : Int) * (x : Int) ≤ 1000000 := by
          have := Nat.mul_le_mul (show x ≤ 1000 by omega) (show x ≤ 1000 by omega)
          rw [← Int.natCast_mul]; omega
        have hkx : 2 * (x : Int) * (x : Int) = 2 * ((x : Int) * (x : Int)) := Int.mul_assoc _ _ _
        have hkxx : 0 ≤ 2 * (x : Int) * (x : Int) ∧ 2 * (x : Int) * (x : Int) ≤ 4000000 := by omega
        by_cases hst : (rest : Int) ≤ 2 * (x : Int) * (x : Int)
        · have HST := hid (show sqStop 1 rest x = false from decide_eq_false (by
            have h3 : ((1 + 1) * x * x : Nat) = 2 * (x * x) := by rw [Nat.mul_assoc]
            rw [h3]
            rw [hkx, ← Int.natCast_mul] at hst; omega))
          have hxr : x * x ≤ rest := by
            have h1 := Nat.mul_le_mul hxX hxX
            have h2 := HXR.out
            omega
          obtain ⟨m, hm⟩ : ∃ m, rest - x * x = m := ⟨_, rfl⟩
          have hnx : (rest : Int) - (x : Int) * (x : Int) = (m : Int) := by rw [← Int.natCast_mul]; omega
          have hm6 : m ≤ 1000000 := by omega
          have HZ := hid (show lpM [x0, x1] 1 rest (x + 1) = ((Sq.sqL 1 m x).map ([x0, x1, (x : Int)] ++ ·)) ++ lpM [x0, x1] 1 rest x by rw [lpM_go HST.out, hm]; rfl)
          have c2 := HBr.out 2 z rfl
          have HB2 := hid (HBr.out.set 2 (x : Int))
          have HJ2 := hid (hJ.set _ _ _ B 2 (.int .i64 (x : Int)) HJr.out (.inr rfl))
          have HS2 := hid (show (wr.setCell ⟨B, 2, none⟩ (.int .i64 (x : Int))).heap.size = wr.heap.size by simp)
          have HK2 := hid (fun b (hb : P b) => (heap_setCell_other wr ⟨B, 2, none⟩ b (.int .i64 (x : Int)) (by have h1 := HP.out b hb; have h2 := HBB.out; simp only; omega)).trans (HKr.out b hb))
          have HC := hid (each4_3 hJ hY x0 x1 x (fun b => P b ∨ b = B) (pre ++ D) m x _ HJ2.out (by omega) (by omega) (by
            intro b hb
            rw [HS2.out]
            rcases hb with hb | rfl
            · have h1 := HP.out b hb; have h2 := HBs.out; have h3 := HBB.out; omega
            · exact HBs.out) (by
            have h1 := HL.out
            rw [← HDr.out, HZ.out] at h1
            exact pre_part h1))
          obtain ⟨cc2, ff2⟩ := c2
          have d0 := (HB2.out 0 x0 rfl).1
          have d1 := (HB2.out 1 x1 rfl).1
          have d2 := (HB2.out 2 (x : Int) rfl).1
          have d3 := (HB2.out 3 0 rfl).1
          clear hm HST
          go_wp2_with (go_at_call 63; refine HC.out.mono ?_; rintro e w3 (⟨rfl, hJ3, hk3⟩ | ⟨rfl, q, hq, hx3⟩))
          · have HB3 := hid (SBox.keep HB2.out (hk3 B (.inr rfl)))
            have HS3 := hid (show B < w3.heap.size from World.block_lt_of_cell? w3 ⟨B, 2, none⟩ (HB3.out 2 x rfl).1)
            go_roundw
            case rel => exact ⟨x, D ++ ((Sq.sqL 1 m x).map ([x0, x1, (x : Int)] ++ ·)), x, by omega, by go_num, by rw [← List.append_assoc]; exact hJ3, by rw [List.append_assoc, ← HZ.out]; exact HDr.out, HB3.out, HS3.out, fun b hb => (hk3 b (.inl hb)).trans (HK2.out b hb)⟩
            case measure => simp [intOf]
          · go_ret
            refine .inr ⟨rfl, D ++ q, ?_, by rw [← List.append_assoc]; exact hx3⟩
            rw [← HDr.out, HZ.out]
            obtain ⟨t, ht⟩ := hq
            exact ⟨t ++ lpM [x0, x1] 1 rest x, by rw [← ht]; simp⟩
        · have hst' : decide ((rest : Int) ≤ 2 * (x : Int) * (x : Int)) = false := decide_eq_false hst
          have HN := hid (show D = Z by
            rw [← HDr.out, lpM_stop (decide_eq_true (by
              have h3 : ((1 + 1) * x * x : Nat) = 2 * (x * x) := by rw [Nat.mul_assoc]
              rw [h3]
              rw [hkx, ← Int.natCast_mul] at hst; omega))]; simp)
          go_wp2_with fail
          go_ret
          exact .inl ⟨rfl, by rw [← HN.out]; exact hJ.weak _ _ _ _ HJr.out (fun b hb => .inl hb), HKr.out⟩

set_option maxRecDepth 20000 in
set_option maxHeartbeats 4000000 in
theorem each4_1 {J : (Nat → Prop) → List (List Int) → World → Prop} {Jx : List (List Int) → World → Prop} (hJ : Carr J) {l : Nat} {L : List (List Int)} (hY : Yields l L J Jx) (x0 : Int)
    (P : Nat → Prop) (pre : List (List Int)) (rest most : Nat) (W : World) (h : J P pre W) (hrest : rest ≤ 1000000) (hmost : most ≤ 1000000) (hP : ∀ b, P b → b < W.heap.size) (hL : pre ++ (Sq.sqL 3 rest most).map ([x0] ++ ·) <+: L) :
    Calls Try.prog 63 #[.agg #[.int .i64 x0, .int .i64 0, .int .i64 0, .int .i64 0], .int .i64 1, .int .i64 rest, .int .i64 most, .func (.yield l) #[] #[]] W fun e W' => Went J Jx P pre ((Sq.sqL 3 rest most).map ([x0] ++ ·)) W e W' := by
  rw [← lpM_all] at hL ⊢
  have HRT := hid (fun w => rootOf9_any rest w hrest)
  have hrr := rootN_le hrest
  obtain ⟨X, hX⟩ : ∃ X, min most (rootN rest) = X := ⟨_, rfl⟩
  rw [hX] at hL ⊢
  have hX3 : X ≤ 1000 := by omega
  have HXR := hid (show X * X ≤ rest by
    have := Nat.mul_le_mul (show X ≤ rootN rest by omega) (show X ≤ rootN rest by omega)
    have := (rootN_spec rest).1; omega)
  obtain ⟨Z, hZ⟩ : ∃ Z, lpM [x0] 2 rest (X + 1) = Z := ⟨_, rfl⟩
  rw [hZ] at hL ⊢
  have HZ0 := hid hZ
  have HL := hid hL
  have HP := hid hP
  have HJ1 := hid (hJ.new P pre W #[.int .i64 x0, .int .i64 0, .int .i64 0, .int .i64 0] 66 h)
  have HB0 := hid (SBox.new W [x0, 0, 0, 0] #[.int .i64 x0, .int .i64 0, .int .i64 0, .int .i64 0] 66 rfl)
  have HK0 := hid (fun b (hb : P b) => Below.heap_alloc W (.cells #[.int .i64 x0, .int .i64 0, .int .i64 0, .int .i64 0] 66) b (hP b hb))
  have c0 := (HB0.out 0 x0 rfl).1
  have c1 := (HB0.out 1 0 rfl).1
  have c2 := (HB0.out 2 0 rfl).1
  have c3 := (HB0.out 3 0 rfl).1
  have HB0s := hid (show (W.alloc (.cells #[.int .i64 x0, .int .i64 0, .int .i64 0, .int .i64 0] 66)).heap.size = W.heap.size + 1 by simp)
  obtain ⟨R, hR⟩ : ∃ R, rootN rest = R := ⟨_, rfl⟩
  rw [hR] at HRT hX hrr
  clear h hP hL hZ hR
  have key : (X = R ∧ (R : Int) ≤ (most : Int)) ∨ (X = most ∧ ¬ (R : Int) ≤ (most : Int)) := by omega
  clear hX
  rcases key with ⟨hXe, hle0⟩ | ⟨hXe, hle0⟩
  · subst hXe
    go_enter Try.func63, Try.ntmps63
    go_wp2_with (go_at_call 65; refine (HRT.out _).mono ?_; rintro e w2 ⟨rfl, rfl⟩)
    clear c0 c1 c2 c3
    obtain ⟨B, hB⟩ : ∃ B, W.heap.size = B := ⟨_, rfl⟩
    rw [hB] at HB0 HB0s ⊢
    have HBB := hid hB
    clear hB
    go_loopw [14] (fun o wr => ∃ (y : Nat) (D : List (List Int)) (z : Int), y ≤ X + 1 ∧ o = .int .i64 ((y : Int) - 1) ∧ J (fun b => P b ∨ b = B) (pre ++ D) wr ∧ D ++ lpM [x0] 2 rest y = Z ∧ SBox wr B [x0, z, 0, 0] ∧ B < wr.heap.size ∧ ∀ b, P b → wr.heap[b]? = W.heap[b]?) (fun o _ => (intOf o + 1).toNat)
    case atStart => exact ⟨X + 1, [], 0, Nat.le_refl _, by simp, by simpa [HBB.out] using HJ1.out, by simpa using HZ0.out, HB0.out, by rw [HB0s.out]; omega, HK0.out⟩
    case round =>
      obtain ⟨y, D, z, hy, rfl, hJr, hDr, hBr, hBs, hKr⟩ := hrel
      have HJr := hid hJr
      have HDr := hid hDr
      have HBr := hid hBr
      have HBs := hid hBs
      have HKr := hid hKr
      clear hJr hDr hBr hBs hKr
      by_cases h0 : y = 0
      · subst h0
        have HN := hid (show D = Z by rw [← HDr.out]; simp [lpM, lpY])
        go_wp2_with fail
        go_ret
        exact .inl ⟨rfl, by rw [← HN.out]; exact hJ.weak _ _ _ _ HJr.out (fun b hb => .inl hb), HKr.out⟩
      · obtain ⟨x, rfl⟩ : ∃ x, y = x + 1 := ⟨y - 1, by omega⟩
        rw [show ((x + 1 : Nat) : Int) - 1 = (x : Int) by omega]
        have hxX : x ≤ X := by omega
        have hxx : 0 ≤ (x : Int) * (x : Int) ∧ (x : Int) * (x : Int) ≤ 1000000 := by
          have := Nat.mul_le_mul (show x ≤ 1000 by omega) (show x ≤ 1000 by omega)
          rw [← Int.natCast_mul]; omega
        have hkx : 3 * (x : Int) * (x : Int) = 3 * ((x : Int) * (x : Int)) := Int.mul_assoc _ _ _
        have hkxx : 0 ≤ 3 * (x : Int) * (x : Int) ∧ 3 * (x : Int) * (x : Int) ≤ 4000000 := by omega
        by_cases hst : (rest : Int) ≤ 3 * (x : Int) * (x : Int)
        · have HST := hid (show sqStop 2 rest x = false from decide_eq_false (by
            have h3 : ((2 + 1) * x * x : Nat) = 3 * (x * x) := by rw [Nat.mul_assoc]
            rw [h3]
            rw [hkx, ← Int.natCast_mul] at hst; omega))
          have hxr : x * x ≤ rest := by
            have h1 := Nat.mul_le_mul hxX hxX
            have h2 := HXR.out
            omega
          obtain ⟨m, hm⟩ : ∃ m, rest - x * x = m := ⟨_, rfl⟩
          have hnx : (rest : Int) - (x : Int) * (x : Int) = (m : Int) := by rw [← Int.natCast_mul]; omega
          have hm6 : m ≤ 1000000 := by omega
          have HZ := hid (show lpM [x0] 2 rest (x + 1) = ((Sq.sqL 2 m x).map ([x0, (x : Int)] ++ ·)) ++ lpM [x0] 2 rest x by rw [lpM_go HST.out, hm]; rfl)
          have c1 := HBr.out 1 z rfl
          have HB2 := hid (HBr.out.set 1 (x : Int))
          have HJ2 := hid (hJ.set _ _ _ B 1 (.int .i64 (x : Int)) HJr.out (.inr rfl))
          have HS2 := hid (show (wr.setCell ⟨B, 1, none⟩ (.int .i64 (x : Int))).heap.size = wr.heap.size by simp)
          have HK2 := hid (fun b (hb : P b) => (heap_setCell_other wr ⟨B, 1, none⟩ b (.int .i64 (x : Int)) (by have h1 := HP.out b hb; have h2 := HBB.out; simp only; omega)).trans (HKr.out b hb))
          have HC := hid (each4_2 hJ hY x0 x (fun b => P b ∨ b = B) (pre ++ D) m x _ HJ2.out (by omega) (by omega) (by
            intro b hb
            rw [HS2.out]
            rcases hb with hb | rfl
            · have h1 := HP.out b hb; have h2 := HBs.out; have h3 := HBB.out; omega
            · exact HBs.out) (by
            have h1 := HL.out
            rw [← HDr.out, HZ.out] at h1
            exact pre_part h1))
          obtain ⟨cc1, ff1⟩ := c1
          have d0 := (HB2.out 0 x0 rfl).1
          have d1 := (HB2.out 1 (x : Int) rfl).1
          have d2 := (HB2.out 2 0 rfl).1
          have d3 := (HB2.out 3 0 rfl).1
          clear hm HST
          go_wp2_with (go_at_call 63; refine HC.out.mono ?_; rintro e w3 (⟨rfl, hJ3, hk3⟩ | ⟨rfl, q, hq, hx3⟩))
          · have HB3 := hid (SBox.keep HB2.out (hk3 B (.inr rfl)))
            have HS3 := hid (show B < w3.heap.size from World.block_lt_of_cell? w3 ⟨B, 1, none⟩ (HB3.out 1 x rfl).1)
            go_roundw
            case rel => exact ⟨x, D ++ ((Sq.sqL 2 m x).map ([x0, (x : Int)] ++ ·)), x, by omega, by go_num, by rw [← List.append_assoc]; exact hJ3, by rw [List.append_assoc, ← HZ.out]; exact HDr.out, HB3.out, HS3.out, fun b hb => (hk3 b (.inl hb)).trans (HK2.out b hb)⟩
            case measure => simp [intOf]
          · go_ret
            refine .inr ⟨rfl, D ++ q, ?_, by rw [← List.append_assoc]; exact hx3⟩
            rw [← HDr.out, HZ.out]
            obtain ⟨t, ht⟩ := hq
            exact ⟨t ++ lpM [x0] 2 rest x, by rw [← ht]; simp⟩
        · have hst' : decide ((rest : Int) ≤ 3 * (x : Int) * (x : Int)) = false := decide_eq_false hst
          have HN := hid (show D = Z by
            rw [← HDr.out, lpM_stop (decide_eq_true (by
              have h3 : ((2 + 1) * x * x : Nat) = 3 * (x * x) := by rw [Nat.mul_assoc]
              rw [h3]
              rw [hkx, ← Int.natCast_mul] at hst; omega))]; simp)
          go_wp2_with fail
          go_ret
          exact .inl ⟨rfl, by rw [← HN.out]; exact hJ.weak _ _ _ _ HJr.out (fun b hb => .inl hb), HKr.out⟩
  · subst hXe
    go_enter Try.func63, Try.ntmps63
    go_wp2_with (go_at_call 65; refine (HRT.out _).mono ?_; rintro e w2 ⟨rfl, rfl⟩)
    clear c0 c1 c2 c3
    obtain ⟨B, hB⟩ : ∃ B, W.heap.size = B := ⟨_, rfl⟩
    rw [hB] at HB0 HB0s ⊢
    have HBB := hid hB
    clear hB
    go_loopw [14] (fun o wr => ∃ (y : Nat) (D : List (List Int)) (z : Int), y ≤ X + 1 ∧ o = .int .i64 ((y : Int) - 1) ∧ J (fun b => P b ∨ b = B) (pre ++ D) wr ∧ D ++ lpM [x0] 2 rest y = Z ∧ SBox wr B [x0, z, 0, 0] ∧ B < wr.heap.size ∧ ∀ b, P b → wr.heap[b]? = W.heap[b]?) (fun o _ => (intOf o + 1).toNat)
    case atStart => exact ⟨X + 1, [], 0, Nat.le_refl _, by simp, by simpa [HBB.out] using HJ1.out, by simpa using HZ0.out, HB0.out, by rw [HB0s.out]; omega, HK0.out⟩
    case round =>
      obtain ⟨y, D, z, hy, rfl, hJr, hDr, hBr, hBs, hKr⟩ := hrel
      have HJr := hid hJr
      have HDr := hid hDr
      have HBr := hid hBr
      have HBs := hid hBs
      have HKr := hid hKr
      clear hJr hDr hBr hBs hKr
      by_cases h0 : y = 0
      · subst h0
        have HN := hid (show D = Z by rw [← HDr.out]; simp [lpM, lpY])
        go_wp2_with fail
        go_ret
        exact .inl ⟨rfl, by rw [← HN.out]; exact hJ.weak _ _ _ _ HJr.out (fun b hb => .inl hb), HKr.out⟩
      · obtain ⟨x, rfl⟩ : ∃ x, y = x + 1 := ⟨y - 1, by omega⟩
        rw [show ((x + 1 : Nat) : Int) - 1 = (x : Int) by omega]
        have hxX : x ≤ X := by omega
        have hxx : 0 ≤ (x : Int) * (x : Int) ∧ (x : Int) * (x : Int) ≤ 1000000 := by
          have := Nat.mul_le_mul (show x ≤ 1000 by omega) (show x ≤ 1000 by omega)
          rw [← Int.natCast_mul]; omega
        have hkx : 3 * (x : Int) * (x : Int) = 3 * ((x : Int) * (x : Int)) := Int.mul_assoc _ _ _
        have hkxx : 0 ≤ 3 * (x : Int) * (x : Int) ∧ 3 * (x : Int) * (x : Int) ≤ 4000000 := by omega
        by_cases hst : (rest : Int) ≤ 3 * (x : Int) * (x : Int)
        · have HST := hid (show sqStop 2 rest x = false from decide_eq_false (by
            have h3 : ((2 + 1) * x * x : Nat) = 3 * (x * x) := by rw [Nat.mul_assoc]
            rw [h3]
            rw [hkx, ← Int.natCast_mul] at hst; omega))
          have hxr : x * x ≤ rest := by
            have h1 := Nat.mul_le_mul hxX hxX
            have h2 := HXR.out
            omega
          obtain ⟨m, hm⟩ : ∃ m, rest - x * x = m := ⟨_, rfl⟩
          have hnx : (rest : Int) - (x : Int) * (x : Int) = (m : Int) := by rw [← Int.natCast_mul]; omega
          have hm6 : m ≤ 1000000 := by omega
          have HZ := hid (show lpM [x0] 2 rest (x + 1) = ((Sq.sqL 2 m x).map ([x0, (x : Int)] ++ ·)) ++ lpM [x0] 2 rest x by rw [lpM_go HST.out, hm]; rfl)
          have c1 := HBr.out 1 z rfl
          have HB2 := hid (HBr.out.set 1 (x : Int))
          have HJ2 := hid (hJ.set _ _ _ B 1 (.int .i64 (x : Int)) HJr.out (.inr rfl))
          have HS2 := hid (show (wr.setCell ⟨B, 1, none⟩ (.int .i64 (x : Int))).heap.size = wr.heap.size by simp)
          have HK2 := hid (fun b (hb : P b) => (heap_setCell_other wr ⟨B, 1, none⟩ b (.int .i64 (x : Int)) (by have h1 := HP.out b hb; have h2 := HBB.out; simp only; omega)).trans (HKr.out b hb))
          have HC := hid (each4_2 hJ hY x0 x (fun b => P b ∨ b = B) (pre ++ D) m x _ HJ2.out (by omega) (by omega) (by
            intro b hb
            rw [HS2.out]
            rcases hb with hb | rfl
            · have h1 := HP.out b hb; have h2 := HBs.out; have h3 := HBB.out; omega
            · exact HBs.out) (by
            have h1 := HL.out
            rw [← HDr.out, HZ.out] at h1
            exact pre_part h1))
          obtain ⟨cc1, ff1⟩ := c1
          have d0 := (HB2.out 0 x0 rfl).1
          have d1 := (HB2.out 1 (x : Int) rfl).1
          have d2 := (HB2.out 2 0 rfl).1
          have d3 := (HB2.out 3 0 rfl).1
          clear hm HST
          go_wp2_with (go_at_call 63; refine HC.out.mono ?_; rintro e w3 (⟨rfl, hJ3, hk3⟩ | ⟨rfl, q, hq, hx3⟩))
          · have HB3 := hid (SBox.keep HB2.out (hk3 B (.inr rfl)))
            have HS3 := hid (show B < w3.heap.size from World.block_lt_of_cell? w3 ⟨B, 1, none⟩ (HB3.out 1 x rfl).1)
            go_roundw
            case rel => exact ⟨x, D ++ ((Sq.sqL 2 m x).map ([x0, (x : Int)] ++ ·)), x, by omega, by go_num, by rw [← List.append_assoc]; exact hJ3, by rw [List.append_assoc, ← HZ.out]; exact HDr.out, HB3.out, HS3.out, fun b hb => (hk3 b (.inl hb)).trans (HK2.out b hb)⟩
            case measure => simp [intOf]
          · go_ret
            refine .inr ⟨rfl, D ++ q, ?_, by rw [← List.append_assoc]; exact hx3⟩
            rw [← HDr.out, HZ.out]
            obtain ⟨t, ht⟩ := hq
            exact ⟨t ++ lpM [x0] 2 rest x, by rw [← ht]; simp⟩
        · have hst' : decide ((rest : Int) ≤ 3 * (x : Int) * (x : Int)) = false := decide_eq_false hst
          have HN := hid (show D = Z by
            rw [← HDr.out, lpM_stop (decide_eq_true (by
              have h3 : ((2 + 1) * x * x : Nat) = 3 * (x * x) := by rw [Nat.mul_assoc]
              rw [h3]
              rw [hkx, ← Int.natCast_mul] at hst; omega))]; simp)
          go_wp2_with fail
          go_ret
          exact .inl ⟨rfl, by rw [← HN.out]; exact hJ.weak _ _ _ _ HJr.out (fun b hb => .inl hb), HKr.out⟩

set_option maxRecDepth 20000 in
set_option maxHeartbeats 4000000 in
theorem each4_0 {J : (Nat → Prop) → List (List Int) → World → Prop} {Jx : List (List Int) → World → Prop} (hJ : Carr J) {l : Nat} {L : List (List Int)} (hY : Yields l L J Jx) 
    (P : Nat → Prop) (pre : List (List Int)) (rest most : Nat) (W : World) (h : J P pre W) (hrest : rest ≤ 1000000) (hmost : most ≤ 1000000) (hP : ∀ b, P b → b < W.heap.size) (hL : pre ++ (Sq.sqL 4 rest most).map ([] ++ ·) <+: L) :
    Calls Try.prog 63 #[.agg #[.int .i64 0, .int .i64 0, .int .i64 0, .int .i64 0], .int .i64 0, .int .i64 rest, .int .i64 most, .func (.yield l) #[] #[]] W fun e W' => Went J Jx P pre ((Sq.sqL 4 rest most).map ([] ++ ·)) W e W' := by
  rw [← lpM_all] at hL ⊢
  have HRT := hid (fun w => rootOf9_any rest w hrest)
  have hrr := rootN_le hrest
  obtain ⟨X, hX⟩ : ∃ X, min most (rootN rest) = X := ⟨_, rfl⟩
  rw [hX] at hL ⊢
  have hX3 : X ≤ 1000 := by omega
  have HXR := hid (show X * X ≤ rest by
    have := Nat.mul_le_mul (show X ≤ rootN rest by omega) (show X ≤ rootN rest by omega)
    have := (rootN_spec rest).1; omega)
  obtain ⟨Z, hZ⟩ : ∃ Z, lpM [] 3 rest (X + 1) = Z := ⟨_, rfl⟩
  rw [hZ] at hL ⊢
  have HZ0 := hid hZ
  have HL := hid hL
  have HP := hid hP
  have HJ1 := hid (hJ.new P pre W #[.int .i64 0, .int .i64 0, .int .i64 0, .int .i64 0] 66 h)
  have HB0 := hid (SBox.new W [0, 0, 0, 0] #[.int .i64 0, .int .i64 0, .int .i64 0, .int .i64 0] 66 rfl)
  have HK0 := hid (fun b (hb : P b) => Below.heap_alloc W (.cells #[.int .i64 0, .int .i64 0, .int .i64 0, .int .i64 0] 66) b (hP b hb))
  have c0 := (HB0.out 0 0 rfl).1
  have c1 := (HB0.out 1 0 rfl).1
  have c2 := (HB0.out 2 0 rfl).1
  have c3 := (HB0.out 3 0 rfl).1
  have HB0s := hid (show (W.alloc (.cells #[.int .i64 0, .int .i64 0, .int .i64 0, .int .i64 0] 66)).heap.size = W.heap.size + 1 by simp)
  obtain ⟨R, hR⟩ : ∃ R, rootN rest = R := ⟨_, rfl⟩
  rw [hR] at HRT hX hrr
  clear h hP hL hZ hR
  have key : (X = R ∧ (R : Int) ≤ (most : Int)) ∨ (X = most ∧ ¬ (R : Int) ≤ (most : Int)) := by omega
  clear hX
  rcases key with ⟨hXe, hle0⟩ | ⟨hXe, hle0⟩
  · subst hXe
    go_enter Try.func63, Try.ntmps63
    go_wp2_with (go_at_call 65; refine (HRT.out _).mono ?_; rintro e w2 ⟨rfl, rfl⟩)
    clear c0 c1 c2 c3
    obtain ⟨B, hB⟩ : ∃ B, W.heap.size = B := ⟨_, rfl⟩
    rw [hB] at HB0 HB0s ⊢
    have HBB := hid hB
    clear hB
    go_loopw [14] (fun o wr => ∃ (y : Nat) (D : List (List Int)) (z : Int), y ≤ X + 1 ∧ o = .int .i64 ((y : Int) - 1) ∧ J (fun b => P b ∨ b = B) (pre ++ D) wr ∧ D ++ lpM [] 3 rest y = Z ∧ SBox wr B [z, 0, 0, 0] ∧ B < wr.heap.size ∧ ∀ b, P b → wr.heap[b]? = W.heap[b]?) (fun o _ => (intOf o + 1).toNat)
    case atStart => exact ⟨X + 1, [], 0, Nat.le_refl _, by simp, by simpa [HBB.out] using HJ1.out, by simpa using HZ0.out, HB0.out, by rw [HB0s.out]; omega, HK0.out⟩
    case round =>
      obtain ⟨y, D, z, hy, rfl, hJr, hDr, hBr, hBs, hKr⟩ := hrel
      have HJr := hid hJr
      have HDr := hid hDr
      have HBr := hid hBr
      have HBs := hid hBs
      have HKr := hid hKr
      clear hJr hDr hBr hBs hKr
      by_cases h0 : y = 0
      · subst h0
        have HN := hid (show D = Z by rw [← HDr.out]; simp [lpM, lpY])
        go_wp2_with fail
        go_ret
        exact .inl ⟨rfl, by rw [← HN.out]; exact hJ.weak _ _ _ _ HJr.out (fun b hb => .inl hb), HKr.out⟩
      · obtain ⟨x, rfl⟩ : ∃ x, y = x + 1 := ⟨y - 1, by omega⟩
        rw [show ((x + 1 : Nat) : Int) - 1 = (x : Int) by omega]
        have hxX : x ≤ X := by omega
        have hxx : 0 ≤ (x : Int) * (x : Int) ∧ (x : Int) * (x : Int) ≤ 1000000 := by
          have := Nat.mul_le_mul (show x ≤ 1000 by omega) (show x ≤ 1000 by omega)
          rw [← Int.natCast_mul]; omega
        have hkx : 4 * (x : Int) * (x : Int) = 4 * ((x : Int) * (x : Int)) := Int.mul_assoc _ _ _
        have hkxx : 0 ≤ 4 * (x : Int) * (x : Int) ∧ 4 * (x : Int) * (x : Int) ≤ 4000000 := by omega
        by_cases hst : (rest : Int) ≤ 4 * (x : Int) * (x : Int)
        · have HST := hid (show sqStop 3 rest x = false from decide_eq_false (by
            have h3 : ((3 + 1) * x * x : Nat) = 4 * (x * x) := by rw [Nat.mul_assoc]
            rw [h3]
            rw [hkx, ← Int.natCast_mul] at hst; omega))
          have hxr : x * x ≤ rest := by
            have h1 := Nat.mul_le_mul hxX hxX
            have h2 := HXR.out
            omega
          obtain ⟨m, hm⟩ : ∃ m, rest - x * x = m := ⟨_, rfl⟩
          have hnx : (rest : Int) - (x : Int) * (x : Int) = (m : Int) := by rw [← Int.natCast_mul]; omega
          have hm6 : m ≤ 1000000 := by omega
          have HZ := hid (show lpM [] 3 rest (x + 1) = ((Sq.sqL 3 m x).map ([(x : Int)] ++ ·)) ++ lpM [] 3 rest x by rw [lpM_go HST.out, hm]; rfl)
          have c0 := HBr.out 0 z rfl
          have HB2 := hid (HBr.out.set 0 (x : Int))
          have HJ2 := hid (hJ.set _ _ _ B 0 (.int .i64 (x : Int)) HJr.out (.inr rfl))
          have HS2 := hid (show (wr.setCell ⟨B, 0, none⟩ (.int .i64 (x : Int))).heap.size = wr.heap.size by simp)
          have HK2 := hid (fun b (hb : P b) => (heap_setCell_other wr ⟨B, 0, none⟩ b (.int .i64 (x : Int)) (by have h1 := HP.out b hb; have h2 := HBB.out; simp only; omega)).trans (HKr.out b hb))
          have HC := hid (each4_1 hJ hY  x (fun b => P b ∨ b = B) (pre ++ D) m x _ HJ2.out (by omega) (by omega) (by
            intro b hb
            rw [HS2.out]
            rcases hb with hb | rfl
            · have h1 := HP.out b hb; have h2 := HBs.out; have h3 := HBB.out; omega
            · exact HBs.out) (by
            have h1 := HL.out
            rw [← HDr.out, HZ.out] at h1
            exact pre_part h1))
          obtain ⟨cc0, ff0⟩ := c0
          have d0 := (HB2.out 0 (x : Int) rfl).1
          have d1 := (HB2.out 1 0 rfl).1
          have d2 := (HB2.out 2 0 rfl).1
          have d3 := (HB2.out 3 0 rfl).1
          clear hm HST
          go_wp2_with (go_at_call 63; refine HC.out.mono ?_; rintro e w3 (⟨rfl, hJ3, hk3⟩ | ⟨rfl, q, hq, hx3⟩))
          · have HB3 := hid (SBox.keep HB2.out (hk3 B (.inr rfl)))
            have HS3 := hid (show B < w3.heap.size from World.block_lt_of_cell? w3 ⟨B, 0, none⟩ (HB3.out 0 x rfl).1)
            go_roundw
            case rel => exact ⟨x, D ++ ((Sq.sqL 3 m x).map ([(x : Int)] ++ ·)), x, by omega, by go_num, by rw [← List.append_assoc]; exact hJ3, by rw [List.append_assoc, ← HZ.out]; exact HDr.out, HB3.out, HS3.out, fun b hb => (hk3 b (.inl hb)).trans (HK2.out b hb)⟩
            case measure => simp [intOf]
          · go_ret
            refine .inr ⟨rfl, D ++ q, ?_, by rw [← List.append_assoc]; exact hx3⟩
            rw [← HDr.out, HZ.out]
            obtain ⟨t, ht⟩ := hq
            exact ⟨t ++ lpM [] 3 rest x, by rw [← ht]; simp⟩
        · have hst' : decide ((rest : Int) ≤ 4 * (x : Int) * (x : Int)) = false := decide_eq_false hst
          have HN := hid (show D = Z by
            rw [← HDr.out, lpM_stop (decide_eq_true (by
              have h3 : ((3 + 1) * x * x : Nat) = 4 * (x * x) := by rw [Nat.mul_assoc]
              rw [h3]
              rw [hkx, ← Int.natCast_mul] at hst; omega))]; simp)
          go_wp2_with fail
          go_ret
          exact .inl ⟨rfl, by rw [← HN.out]; exact hJ.weak _ _ _ _ HJr.out (fun b hb => .inl hb), HKr.out⟩
  · subst hXe
    go_enter Try.func63, Try.ntmps63
    go_wp2_with (go_at_call 65; refine (HRT.out _).mono ?_; rintro e w2 ⟨rfl, rfl⟩)
    clear c0 c1 c2 c3
    obtain ⟨B, hB⟩ : ∃ B, W.heap.size = B := ⟨_, rfl⟩
    rw [hB] at HB0 HB0s ⊢
    have HBB := hid hB
    clear hB
    go_loopw [14] (fun o wr => ∃ (y : Nat) (D : List (List Int)) (z : Int), y ≤ X + 1 ∧ o = .int .i64 ((y : Int) - 1) ∧ J (fun b => P b ∨ b = B) (pre ++ D) wr ∧ D ++ lpM [] 3 rest y = Z ∧ SBox wr B [z, 0, 0, 0] ∧ B < wr.heap.size ∧ ∀ b, P b → wr.heap[b]? = W.heap[b]?) (fun o _ => (intOf o + 1).toNat)
    case atStart => exact ⟨X + 1, [], 0, Nat.le_refl _, by simp, by simpa [HBB.out] using HJ1.out, by simpa using HZ0.out, HB0.out, by rw [HB0s.out]; omega, HK0.out⟩
    case round =>
      obtain ⟨y, D, z, hy, rfl, hJr, hDr, hBr, hBs, hKr⟩ := hrel
      have HJr := hid hJr
      have HDr := hid hDr
      have HBr := hid hBr
      have HBs := hid hBs
      have HKr := hid hKr
      clear hJr hDr hBr hBs hKr
      by_cases h0 : y = 0
      · subst h0
        have HN := hid (show D = Z by rw [← HDr.out]; simp [lpM, lpY])
        go_wp2_with fail
        go_ret
        exact .inl ⟨rfl, by rw [← HN.out]; exact hJ.weak _ _ _ _ HJr.out (fun b hb => .inl hb), HKr.out⟩
      · obtain ⟨x, rfl⟩ : ∃ x, y = x + 1 := ⟨y - 1, by omega⟩
        rw [show ((x + 1 : Nat) : Int) - 1 = (x : Int) by omega]
        have hxX : x ≤ X := by omega
        have hxx : 0 ≤ (x : Int) * (x : Int) ∧ (x : Int) * (x : Int) ≤ 1000000 := by
          have := Nat.mul_le_mul (show x ≤ 1000 by omega) (show x ≤ 1000 by omega)
          rw [← Int.natCast_mul]; omega
        have hkx : 4 * (x : Int) * (x : Int) = 4 * ((x : Int) * (x : Int)) := Int.mul_assoc _ _ _
        have hkxx : 0 ≤ 4 * (x : Int) * (x : Int) ∧ 4 * (x : Int) * (x : Int) ≤ 4000000 := by omega
        by_cases hst : (rest : Int) ≤ 4 * (x : Int) * (x : Int)
        · have HST := hid (show sqStop 3 rest x = false from decide_eq_false (by
            have h3 : ((3 + 1) * x * x : Nat) = 4 * (x * x) := by rw [Nat.mul_assoc]
            rw [h3]
            rw [hkx, ← Int.natCast_mul] at hst; omega))
          have hxr : x * x ≤ rest := by
            have h1 := Nat.mul_le_mul hxX hxX
            have h2 := HXR.out
            omega
          obtain ⟨m, hm⟩ : ∃ m, rest - x * x = m := ⟨_, rfl⟩
          have hnx : (rest : Int) - (x : Int) * (x : Int) = (m : Int) := by rw [← Int.natCast_mul]; omega
          have hm6 : m ≤ 1000000 := by omega
          have HZ := hid (show lpM [] 3 rest (x + 1) = ((Sq.sqL 3 m x).map ([(x : Int)] ++ ·)) ++ lpM [] 3 rest x by rw [lpM_go HST.out, hm]; rfl)
          have c0 := HBr.out 0 z rfl
          have HB2 := hid (HBr.out.set 0 (x : Int))
          have HJ2 := hid (hJ.set _ _ _ B 0 (.int .i64 (x : Int)) HJr.out (.inr rfl))
          have HS2 := hid (show (wr.setCell ⟨B, 0, none⟩ (.int .i64 (x : Int))).heap.size = wr.heap.size by simp)
          have HK2 := hid (fun b (hb : P b) => (heap_setCell_other wr ⟨B, 0, none⟩ b (.int .i64 (x : Int)) (by have h1 := HP.out b hb; have h2 := HBB.out; simp only; omega)).trans (HKr.out b hb))
          have HC := hid (each4_1 hJ hY  x (fun b => P b ∨ b = B) (pre ++ D) m x _ HJ2.out (by omega) (by omega) (by
            intro b hb
            rw [HS2.out]
            rcases hb with hb | rfl
            · have h1 := HP.out b hb; have h2 := HBs.out; have h3 := HBB.out; omega
            · exact HBs.out) (by
            have h1 := HL.out
            rw [← HDr.out, HZ.out] at h1
            exact pre_part h1))
          obtain ⟨cc0, ff0⟩ := c0
          have d0 := (HB2.out 0 (x : Int) rfl).1
          have d1 := (HB2.out 1 0 rfl).1
          have d2 := (HB2.out 2 0 rfl).1
          have d3 := (HB2.out 3 0 rfl).1
          clear hm HST
          go_wp2_with (go_at_call 63; refine HC.out.mono ?_; rintro e w3 (⟨rfl, hJ3, hk3⟩ | ⟨rfl, q, hq, hx3⟩))
          · have HB3 := hid (SBox.keep HB2.out (hk3 B (.inr rfl)))
            have HS3 := hid (show B < w3.heap.size from World.block_lt_of_cell? w3 ⟨B, 0, none⟩ (HB3.out 0 x rfl).1)
            go_roundw
            case rel => exact ⟨x, D ++ ((Sq.sqL 3 m x).map ([(x : Int)] ++ ·)), x, by omega, by go_num, by rw [← List.append_assoc]; exact hJ3, by rw [List.append_assoc, ← HZ.out]; exact HDr.out, HB3.out, HS3.out, fun b hb => (hk3 b (.inl hb)).trans (HK2.out b hb)⟩
            case measure => simp [intOf]
          · go_ret
            refine .inr ⟨rfl, D ++ q, ?_, by rw [← List.append_assoc]; exact hx3⟩
            rw [← HDr.out, HZ.out]
            obtain ⟨t, ht⟩ := hq
            exact ⟨t ++ lpM [] 3 rest x, by rw [← ht]; simp⟩
        · have hst' : decide ((rest : Int) ≤ 4 * (x : Int) * (x : Int)) = false := decide_eq_false hst
          have HN := hid (show D = Z by
            rw [← HDr.out, lpM_stop (decide_eq_true (by
              have h3 : ((3 + 1) * x * x : Nat) = 4 * (x * x) := by rw [Nat.mul_assoc]
              rw [h3]
              rw [hkx, ← Int.natCast_mul] at hst; omega))]; simp)
          go_wp2_with fail
          go_ret
          exact .inl ⟨rfl, by rw [← HN.out]; exact hJ.weak _ _ _ _ HJr.out (fun b hb => .inl hb), HKr.out⟩
end Go.Proofs.Ytcgdegmhajfbaab
