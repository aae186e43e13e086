/- Lists of squares in the program: eachFrom with N numbers, an index after the other. -/
import Derived.Test.YtofmmegpadojlaaSqS
namespace Go.Proofs.Ytofmmegpadojlaa
open Go.RowKit Go.Shelf

set_option maxHeartbeats 1000000 in
theorem rootOf9_any (m : Nat) (w : World) (hm : m ≤ 1000000) :
    Calls Try.prog 143 #[.int .i64 m] w fun e w' => e = .returned (.tuple #[.int .i64 (rootN m : Nat), .bool true]) ∧ w = w' := by
  go_enter Try.func143, Try.ntmps143
  go_wp2_with fail
  go_loop [4, 5] (fun x y => ∃ l h : Nat, x = .int .i64 l ∧ y = .int .i64 h ∧ l ≤ h ∧ h ≤ 1000000000 ∧ l * l ≤ m ∧ m < (h + 1) * (h + 1)) (fun x y => (intOf y).toNat - (intOf x).toNat)
  case atStart => exact ⟨0, 1000000000, rfl, rfl, by omega, by omega, by omega, sq_lt_of m _ (by omega) (by omega)⟩
  case round =>
    obtain ⟨l, h, rfl, rfl, hlh, hh, hl2, hh2⟩ := hrel
    have HL2 := hid hl2
    have HH2 := hid hh2
    clear hl2 hh2
    by_cases hgt : l < h
    · obtain ⟨k, hk⟩ : ∃ k : Nat, k = (l + h + 1) / 2 := ⟨_, rfl⟩
      have hmi : ((l : Int) + (h : Int) + 1) / 2 = (k : Int) := by omega
      have hml : l < k := by omega
      have hmh : k ≤ h := by omega
      have hsq : k * k ≤ 1000000002000000001 := by have := Nat.mul_le_mul (show k ≤ 1000000001 by omega) (show k ≤ 1000000001 by omega); omega
      have p0 : (0 : Int) ≤ (k : Int) * (k : Int) := by rw [← Int.natCast_mul]; omega
      have p1 : (k : Int) * (k : Int) ≤ 1000000002000000001 := by rw [← Int.natCast_mul]; omega
      by_cases hle : (k : Int) * (k : Int) ≤ (m : Int)
      · have HLE := hid (show k * k ≤ m by rw [← Int.natCast_mul] at hle; omega)
        clear hk hsq
        go_wp2_with fail
        go_round
        case rel => exact ⟨k, h, by rw [hmi], rfl, hmh, hh, HLE.out, HH2.out⟩
        case measure => simp [intOf]; omega
      · have HLE := hid (show m < (k - 1 + 1) * (k - 1 + 1) by rw [← Int.natCast_mul] at hle; rw [show k - 1 + 1 = k by omega]; omega)
        clear hk hsq
        go_wp2_with fail
        go_round
        case rel => exact ⟨l, k - 1, rfl, by go_num, by omega, by omega, HL2.out, HLE.out⟩
        case measure => simp [intOf]; omega
    · have hh1 : h = l := by omega
      have HR := hid (show rootN m = l by rw [rootN_eq m l HL2.out (by rw [← hh1]; exact HH2.out)])
      clear hh1
      go_wp2_with fail
      go_ret2
      exact ⟨by rw [HR.out]; rfl, rfl⟩

/-- A box that holds a list of numbers. -/
def SBox (w : World) (B : Nat) (zs : List Int) : Prop := ∀ j z, zs[j]? = some z → w.cell? ⟨B, j, none⟩ = some (.int .i64 z) ∧ w.frozen? ⟨B, j, none⟩ = false
theorem SBox.keep {w w' : World} {B : Nat} {zs : List Int} (h : SBox w B zs) (k : w'.heap[B]? = w.heap[B]?) : SBox w' B zs :=
  fun j z hj => ⟨cell_keep (h j z hj).1 k, (World.frozen?_of_block k).trans (h j z hj).2⟩
theorem SBox.of_block {w : World} {B : Nat} {zs : List Int} {cs : Array Value} {t : TypeId} (hc : cs = (zs.map (Value.int .i64)).toArray) (h : w.heap[B]? = some (.cells cs t (0, 0))) : SBox w B zs := by
  subst hc
  intro j z hj
  constructor
  · simp [World.cell?, h, hj]
  · simp [World.frozen?, h]
theorem SBox.new (w : World) (zs : List Int) (cs : Array Value) (t : TypeId) (hc : cs = (zs.map (Value.int .i64)).toArray) : SBox (w.alloc (.cells cs t)) w.heap.size zs :=
  SBox.of_block hc (World.alloc_heap_new w _)
theorem SBox.set {w : World} {B : Nat} {zs : List Int} (h : SBox w B zs) (i : Nat) (x : Int) : SBox (w.setCell ⟨B, i, none⟩ (.int .i64 x)) B (zs.set i x) := by
  intro j z hj
  by_cases e : i = j
  · subst e
    have hlt : i < zs.length := by have := (List.getElem?_eq_some_iff.1 hj).1; simpa using this
    rw [List.getElem?_set_self hlt] at hj
    cases hj
    have h0 := h i zs[i] (by simp [hlt])
    exact ⟨World.cell?_setCell_same _ _ _ h0.1, by rw [World.frozen?_setCell]; exact h0.2⟩
  · rw [List.getElem?_set_ne e] at hj
    have h0 := h j z hj
    exact ⟨(World.cell?_setCell_other _ _ _ _ (by intro e2; injection e2 with _ e3; exact e e3)).trans h0.1, by rw [World.frozen?_setCell]; exact h0.2⟩
def lpM (xs : List Int) (k n y : Nat) : List (List Int) := (lpY (sqStop k n) (sqF k n) y).map (xs ++ ·)
theorem lpM_all (xs : List Int) (k n most : Nat) : lpM xs k n (min most (rootN n) + 1) = (Sq.sqL (k + 1) n most).map (xs ++ ·) := rfl
theorem lpM_go {xs : List Int} {k n y : Nat} (h : sqStop k n y = false) : lpM xs k n (y + 1) = (Sq.sqL k (n - y * y) y).map (xs ++ [(y : Int)] ++ ·) ++ lpM xs k n y := by
  unfold lpM
  rw [lpY_go h, List.map_append]
  congr 1
  unfold sqF
  rw [List.map_map]
  exact List.map_congr_left fun a _ => by simp
theorem lpM_stop {xs : List Int} {k n y : Nat} (h : sqStop k n y = true) : lpM xs k n (y + 1) = [] := by
  unfold lpM
  rw [show lpY (sqStop k n) (sqF k n) (y + 1) = [] from lp_stop h]; rfl
theorem pre_part {α : Type} {pre D A B L : List α} (h : pre ++ (D ++ (A ++ B)) <+: L) : pre ++ D ++ A <+: L := by
  obtain ⟨t, ht⟩ := h
  exact ⟨B ++ t, by rw [← ht]; simp⟩
attribute [local go_sem] Oper.semAt_some in
set_option maxRecDepth 100000 in
set_option maxHeartbeats 2000000 in
theorem each2_2 {J : (Nat → Prop) → List (List Int) → World → Prop} {Jx : List (List Int) → World → Prop} (hJ : Carr J) {l : Nat} {L : List (List Int)} (hY : Yields l L J Jx) (x0 x1 : Int)
    (P : Nat → Prop) (pre : List (List Int)) (rest most : Nat) (W : World) (h : J P pre W) (hP : ∀ b, P b → b < W.heap.size) (hL : pre ++ [[x0, x1]] <+: L) :
    Calls Try.prog 135 #[.agg #[.int .i64 x0, .int .i64 x1], .int .i64 2, .int .i64 rest, .int .i64 most, .func (.yield l) #[] #[]] W fun e W' => Went J Jx P pre [[x0, x1]] W e W' := by
  have hY1 := hY 5 _ pre [x0, x1] _ (hJ.new P pre W #[.int .i64 x0, .int .i64 x1] 71 h) hL
  have HB := hid (SBox.new W [x0, x1] #[.int .i64 x0, .int .i64 x1] 71 rfl)
  have HK := hid (fun b (hb : P b) => Below.heap_alloc W (.cells #[.int .i64 x0, .int .i64 x1] 71) b (hP b hb))
  have c0 := (HB.out 0 x0 rfl).1
  have c1 := (HB.out 1 x1 rfl).1
  refine (callsIn_wide (n := 6)).1 ?_
  refine callsIn_of_wp Try.func135 rfl trivial ?_ rfl
  simp only [Try.ntmps135, List.size_toArray, List.length_cons, List.length_nil, Nat.reduceAdd, Nat.reduceSub, Array.replicate_succ, Array.replicate_zero, List.push_toArray, List.append_toArray, List.nil_append, List.cons_append]
  obtain ⟨fn, tmps, assign, body, hy, hR⟩ := hY1
  simp only [encV, List.map_cons, List.map_nil] at hy
  have HR := hid hR
  clear hR
  gi_wp2_with ((try refine ⟨fun _ => trivial, ?_⟩); refine HR.out.mono ?_; rintro e W2 (⟨rfl, hJ2, hk2⟩ | ⟨rfl, hx2⟩))
  · go_ret
    exact .inl ⟨rfl, hJ.weak _ _ _ _ hJ2 (fun b hb => .inl hb), fun b hb => (hk2 b (.inl hb)).trans (HK.out b hb)⟩
  · go_ret
    exact .inr ⟨rfl, _, List.prefix_refl _, hx2⟩

set_option maxRecDepth 20000 in
set_option maxHeartbeats 4000000 in
theorem each2_1 {J : (Nat → Prop) → List (List Int) → World → Prop} {Jx : List (List Int) → World → Prop} (hJ : Carr J) {l : Nat} {L : List (List Int)} (hY : Yields l L J Jx) (x0 : Int)
    (P : Nat → Prop) (pre : List (List Int)) (rest most : Nat) (W : World) (h : J P pre W) (hrest : rest ≤ 1000000) (hmost : most ≤ 1000000) (hP : ∀ b, P b → b < W.heap.size) (hL : pre ++ (Sq.sqL 1 rest most).map ([x0] ++ ·) <+: L) :
    Calls Try.prog 135 #[.agg #[.int .i64 x0, .int .i64 0], .int .i64 1, .int .i64 rest, .int .i64 most, .func (.yield l) #[] #[]] W fun e W' => Went J Jx P pre ((Sq.sqL 1 rest most).map ([x0] ++ ·)) W e W' := by
  rw [← lpM_all] at hL ⊢
  have HRT := hid (fun w => rootOf9_any rest w hrest)
  have hrr := rootN_le hrest
  obtain ⟨X, hX⟩ : ∃ X, min most (rootN rest) = X := ⟨_, rfl⟩
  rw [hX] at hL ⊢
  have hX3 : X ≤ 1000 := by omega
  have HXR := hid (show X * X ≤ rest by
    have := Nat.mul_le_mul (show X ≤ rootN rest by omega) (show X ≤ rootN rest by omega)
    have := (rootN_spec rest).1; omega)
  obtain ⟨Z, hZ⟩ : ∃ Z, lpM [x0] 0 rest (X + 1) = Z := ⟨_, rfl⟩
  rw [hZ] at hL ⊢
  have HZ0 := hid hZ
  have HL := hid hL
  have HP := hid hP
  have HJ1 := hid (hJ.new P pre W #[.int .i64 x0, .int .i64 0] 71 h)
  have HB0 := hid (SBox.new W [x0, 0] #[.int .i64 x0, .int .i64 0] 71 rfl)
  have HK0 := hid (fun b (hb : P b) => Below.heap_alloc W (.cells #[.int .i64 x0, .int .i64 0] 71) b (hP b hb))
  have c0 := (HB0.out 0 x0 rfl).1
  have c1 := (HB0.out 1 0 rfl).1
  have HB0s := hid (show (W.alloc (.cells #[.int .i64 x0, .int .i64 0] 71)).heap.size = W.heap.size + 1 by simp)
  obtain ⟨R, hR⟩ : ∃ R, rootN rest = R := ⟨_, rfl⟩
  rw [hR] at HRT hX hrr
  clear h hP hL hZ hR
  have key : (X = R ∧ (R : Int) ≤ (most : Int)) ∨ (X = most ∧ ¬ (R : Int) ≤ (most : Int)) := by omega
  clear hX
  rcases key with ⟨hXe, hle0⟩ | ⟨hXe, hle0⟩
  · subst hXe
    go_enter Try.func135, Try.ntmps135
    go_wp2_with (go_at_call 143; refine (HRT.out _).mono ?_; rintro e w2 ⟨rfl, rfl⟩)
    clear c0 c1
    obtain ⟨B, hB⟩ : ∃ B, W.heap.size = B := ⟨_, rfl⟩
    rw [hB] at HB0 HB0s ⊢
    have HBB := hid hB
    clear hB
    go_loopw [14] (fun o wr => ∃ (y : Nat) (D : List (List Int)) (z : Int), y ≤ X + 1 ∧ o = .int .i64 ((y : Int) - 1) ∧ J (fun b => P b ∨ b = B) (pre ++ D) wr ∧ D ++ lpM [x0] 0 rest y = Z ∧ SBox wr B [x0, z] ∧ B < wr.heap.size ∧ ∀ b, P b → wr.heap[b]? = W.heap[b]?) (fun o _ => (intOf o + 1).toNat)
    case atStart => exact ⟨X + 1, [], 0, Nat.le_refl _, by simp, by simpa [HBB.out] using HJ1.out, by simpa using HZ0.out, HB0.out, by rw [HB0s.out]; omega, HK0.out⟩
    case round =>
      obtain ⟨y, D, z, hy, rfl, hJr, hDr, hBr, hBs, hKr⟩ := hrel
      have HJr := hid hJr
      have HDr := hid hDr
      have HBr := hid hBr
      have HBs := hid hBs
      have HKr := hid hKr
      clear hJr hDr hBr hBs hKr
      by_cases h0 : y = 0
      · subst h0
        have HN := hid (show D = Z by rw [← HDr.out]; simp [lpM, lpY])
        go_wp2_with fail
        go_ret
        exact .inl ⟨rfl, by rw [← HN.out]; exact hJ.weak _ _ _ _ HJr.out (fun b hb => .inl hb), HKr.out⟩
      · obtain ⟨x, rfl⟩ : ∃ x, y = x + 1 := ⟨y - 1, by omega⟩
        rw [show ((x + 1 : Nat) : Int) - 1 = (x : Int) by omega]
        have hxX : x ≤ X := by omega
        have hxx : 0 ≤ (x : Int) * (x : Int) ∧ (x : Int) * (x : Int) ≤ 1000000 := by
          have := Nat.mul_le_mul (show x ≤ 1000 by omega) (show x ≤ 1000 by omega)
          rw [← Int.natCast_mul]; omega
        have hkx : 1 * (x : Int) * (x : Int) = 1 * ((x : Int) * (x : Int)) := Int.mul_assoc _ _ _
        have hkxx : 0 ≤ 1 * (x : Int) * (x : Int) ∧ 1 * (x : Int) * (x : Int) ≤ 4000000 := by omega
        by_cases hst : (rest : Int) ≤ 1 * (x : Int) * (x : Int)
        · have HST := hid (show sqStop 0 rest x = false from decide_eq_false (by
            have h3 : ((0 + 1) * x * x : Nat) = 1 * (x * x) := by rw [Nat.mul_assoc]
            rw [h3]
            rw [hkx, ← Int.natCast_mul] at hst; omega))
          have hxr : x * x ≤ rest := by
            have h1 := Nat.mul_le_mul hxX hxX
            have h2 := HXR.out
            omega
          obtain ⟨m, hm⟩ : ∃ m, rest - x * x = m := ⟨_, rfl⟩
          have hnx : (rest : Int) - (x : Int) * (x : Int) = (m : Int) := by rw [← Int.natCast_mul]; omega
          have hm6 : m ≤ 1000000 := by omega
          have hrx : rest - x * x = 0 := by rw [hkx, ← Int.natCast_mul] at hst; omega
          have HZ := hid (show lpM [x0] 0 rest (x + 1) = [[x0, (x : Int)]] ++ lpM [x0] 0 rest x by rw [lpM_go HST.out, hrx]; rfl)
          have c1 := HBr.out 1 z rfl
          have HB2 := hid (HBr.out.set 1 (x : Int))
          have HJ2 := hid (hJ.set _ _ _ B 1 (.int .i64 (x : Int)) HJr.out (.inr rfl))
          have HS2 := hid (show (wr.setCell ⟨B, 1, none⟩ (.int .i64 (x : Int))).heap.size = wr.heap.size by simp)
          have HK2 := hid (fun b (hb : P b) => (heap_setCell_other wr ⟨B, 1, none⟩ b (.int .i64 (x : Int)) (by have h1 := HP.out b hb; have h2 := HBB.out; simp only; omega)).trans (HKr.out b hb))
          have HC := hid (each2_2 hJ hY x0 x (fun b => P b ∨ b = B) (pre ++ D) m x _ HJ2.out (by
            intro b hb
            rw [HS2.out]
            rcases hb with hb | rfl
            · have h1 := HP.out b hb; have h2 := HBs.out; have h3 := HBB.out; omega
            · exact HBs.out) (by
            have h1 := HL.out
            rw [← HDr.out, HZ.out] at h1
            exact pre_part h1))
          obtain ⟨cc1, ff1⟩ := c1
          have d0 := (HB2.out 0 x0 rfl).1
          have d1 := (HB2.out 1 (x : Int) rfl).1
          clear hm HST
          go_wp2_with (go_at_call 135; refine HC.out.mono ?_; rintro e w3 (⟨rfl, hJ3, hk3⟩ | ⟨rfl, q, hq, hx3⟩))
          · have HB3 := hid (SBox.keep HB2.out (hk3 B (.inr rfl)))
            have HS3 := hid (show B < w3.heap.size from World.block_lt_of_cell? w3 ⟨B, 1, none⟩ (HB3.out 1 x rfl).1)
            go_roundw
            case rel => exact ⟨x, D ++ [[x0, (x : Int)]], x, by omega, by go_num, by rw [← List.append_assoc]; exact hJ3, by rw [List.append_assoc, ← HZ.out]; exact HDr.out, HB3.out, HS3.out, fun b hb => (hk3 b (.inl hb)).trans (HK2.out b hb)⟩
            case measure => simp [intOf]
          · go_ret
            refine .inr ⟨rfl, D ++ q, ?_, by rw [← List.append_assoc]; exact hx3⟩
            rw [← HDr.out, HZ.out]
            obtain ⟨t, ht⟩ := hq
            exact ⟨t ++ lpM [x0] 0 rest x, by rw [← ht]; simp⟩
        · have hst' : decide ((rest : Int) ≤ 1 * (x : Int) * (x : Int)) = false := decide_eq_false hst
          have HN := hid (show D = Z by
            rw [← HDr.out, lpM_stop (decide_eq_true (by
              have h3 : ((0 + 1) * x * x : Nat) = 1 * (x * x) := by rw [Nat.mul_assoc]
              rw [h3]
              rw [hkx, ← Int.natCast_mul] at hst; omega))]; simp)
          go_wp2_with fail
          go_ret
          exact .inl ⟨rfl, by rw [← HN.out]; exact hJ.weak _ _ _ _ HJr.out (fun b hb => .inl hb), HKr.out⟩
  · subst hXe
    go_enter Try.func135, Try.ntmps135
    go_wp2_with (go_at_call 143; refine (HRT.out _).mono ?_; rintro e w2 ⟨rfl, rfl⟩)
    clear c0 c1
    obtain ⟨B, hB⟩ : ∃ B, W.heap.size = B := ⟨_, rfl⟩
    rw [hB] at HB0 HB0s ⊢
    have HBB := hid hB
    clear hB
    go_loopw [14] (fun o wr => ∃ (y : Nat) (D : List (List Int)) (z : Int), y ≤ X + 1 ∧ o = .int .i64 ((y : Int) - 1) ∧ J (fun b => P b ∨ b = B) (pre ++ D) wr ∧ D ++ lpM [x0] 0 rest y = Z ∧ SBox wr B [x0, z] ∧ B < wr.heap.size ∧ ∀ b, P b → wr.heap[b]? = W.heap[b]?) (fun o _ => (intOf o + 1).toNat)
    case atStart => exact ⟨X + 1, [], 0, Nat.le_refl _, by simp, by simpa [HBB.out] using HJ1.out, by simpa using HZ0.out, HB0.out, by rw [HB0s.out]; omega, HK0.out⟩
    case round =>
      obtain ⟨y, D, z, hy, rfl, hJr, hDr, hBr, hBs, hKr⟩ := hrel
      have HJr := hid hJr
      have HDr := hid hDr
      have HBr := hid hBr
      have HBs := hid hBs
      have HKr := hid hKr
      clear hJr hDr hBr hBs hKr
      by_cases h0 : y = 0
      · subst h0
        have HN := hid (show D = Z by rw [← HDr.out]; simp [lpM, lpY])
        go_wp2_with fail
        go_ret
        exact .inl ⟨rfl, by rw [← HN.out]; exact hJ.weak _ _ _ _ HJr.out (fun b hb => .inl hb), HKr.out⟩
      · obtain ⟨x, rfl⟩ : ∃ x, y = x + 1 := ⟨y - 1, by omega⟩
        rw [show ((x + 1 : Nat) : Int) - 1 = (x : Int) by omega]
        have hxX : x ≤ X := by omega
        have hxx : 0 ≤ (x : Int) * (x : Int) ∧ (x : Int) * (x : Int) ≤ 1000000 := by
          have := Nat.mul_le_mul (show x ≤ 1000 by omega) (show x ≤ 1000 by omega)
          rw [← Int.natCast_mul]; omega
        have hkx : 1 * (x : Int) * (x : Int) = 1 * ((x : Int) * (x : Int)) := Int.mul_assoc _ _ _
        have hkxx : 0 ≤ 1 * (x : Int) * (x : Int) ∧ 1 * (x : Int) * (x : Int) ≤ 4000000 := by omega
        by_cases hst : (rest : Int) ≤ 1 * (x : Int) * (x : Int)
        · have HST := hid (show sqStop 0 rest x = false from decide_eq_false (by
            have h3 : ((0 + 1) * x * x : Nat) = 1 * (x * x) := by rw [Nat.mul_assoc]
            rw [h3]
            rw [hkx, ← Int.natCast_mul] at hst; omega))
          have hxr : x * x ≤ rest := by
            have h1 := Nat.mul_le_mul hxX hxX
            have h2 := HXR.out
            omega
          obtain ⟨m, hm⟩ : ∃ m, rest - x * x = m := ⟨_, rfl⟩
          have hnx : (rest : Int) - (x : Int) * (x : Int) = (m : Int) := by rw [← Int.natCast_mul]; omega
          have hm6 : m ≤ 1000000 := by omega
          have hrx : rest - x * x = 0 := by rw [hkx, ← Int.natCast_mul] at hst; omega
          have HZ := hid (show lpM [x0] 0 rest (x + 1) = [[x0, (x : Int)]] ++ lpM [x0] 0 rest x by rw [lpM_go HST.out, hrx]; rfl)
          have c1 := HBr.out 1 z rfl
          have HB2 := hid (HBr.out.set 1 (x : Int))
          have HJ2 := hid (hJ.set _ _ _ B 1 (.int .i64 (x : Int)) HJr.out (.inr rfl))
          have HS2 := hid (show (wr.setCell ⟨B, 1, none⟩ (.int .i64 (x : Int))).heap.size = wr.heap.size by simp)
          have HK2 := hid (fun b (hb : P b) => (heap_setCell_other wr ⟨B, 1, none⟩ b (.int .i64 (x : Int)) (by have h1 := HP.out b hb; have h2 := HBB.out; simp only; omega)).trans (HKr.out b hb))
          have HC := hid (each2_2 hJ hY x0 x (fun b => P b ∨ b = B) (pre ++ D) m x _ HJ2.out (by
            intro b hb
            rw [HS2.out]
            rcases hb with hb | rfl
            · have h1 := HP.out b hb; have h2 := HBs.out; have h3 := HBB.out; omega
            · exact HBs.out) (by
            have h1 := HL.out
            rw [← HDr.out, HZ.out] at h1
            exact pre_part h1))
          obtain ⟨cc1, ff1⟩ := c1
          have d0 := (HB2.out 0 x0 rfl).1
          have d1 := (HB2.out 1 (x : Int) rfl).1
          clear hm HST
          go_wp2_with (go_at_call 135; refine HC.out.mono ?_; rintro e w3 (⟨rfl, hJ3, hk3⟩ | ⟨rfl, q, hq, hx3⟩))
          · have HB3 := hid (SBox.keep HB2.out (hk3 B (.inr rfl)))
            have HS3 := hid (show B < w3.heap.size from World.block_lt_of_cell? w3 ⟨B, 1, none⟩ (HB3.out 1 x rfl).1)
            go_roundw
            case rel => exact ⟨x, D ++ [[x0, (x : Int)]], x, by omega, by go_num, by rw [← List.append_assoc]; exact hJ3, by rw [List.append_assoc, ← HZ.out]; exact HDr.out, HB3.out, HS3.out, fun b hb => (hk3 b (.inl hb)).trans (HK2.out b hb)⟩
            case measure => simp [intOf]
          · go_ret
            refine .inr ⟨rfl, D ++ q, ?_, by rw [← List.append_assoc]; exact hx3⟩
            rw [← HDr.out, HZ.out]
            obtain ⟨t, ht⟩ := hq
            exact ⟨t ++ lpM [x0] 0 rest x, by rw [← ht]; simp⟩
        · have hst' : decide ((rest : Int) ≤ 1 * (x : Int) * (x : Int)) = false := decide_eq_false hst
          have HN := hid (show D = Z by
            rw [← HDr.out, lpM_stop (decide_eq_true (by
              have h3 : ((0 + 1) * x * x : Nat) = 1 * (x * x) := by rw [Nat.mul_assoc]
              rw [h3]
              rw [hkx, ← Int.natCast_mul] at hst; omega))]; simp)
          go_wp2_with fail
          go_ret
          exact .inl ⟨rfl, by rw [← HN.out]; exact hJ.weak _ _ _ _ HJr.out (fun b hb => .inl hb), HKr.out⟩

set_option maxRecDepth 20000 in
set_option maxHeartbeats 4000000 in
theorem each2_0 {J : (Nat → Prop) → List (List Int) → World → Prop} {Jx : List (List Int) → World → Prop} (hJ : Carr J) {l : Nat} {L : List (List Int)} (hY : Yields l L J Jx) 
    (P : Nat → Prop) (pre : List (List Int)) (rest most : Nat) (W : World) (h : J P pre W) (hrest : rest ≤ 1000000) (hmost : most ≤ 1000000) (hP : ∀ b, P b → b < W.heap.size) (hL : pre ++ (Sq.sqL 2 rest most).map ([] ++ ·) <+: L) :
    Calls Try.prog 135 #[.agg #[.int .i64 0, .int .i64 0], .int .i64 0, .int .i64 rest, .int .i64 most, .func (.yield l) #[] #[]] W fun e W' => Went J Jx P pre ((Sq.sqL 2 rest most).map ([] ++ ·)) W e W' := by
  rw [← lpM_all] at hL ⊢
  have HRT := hid (fun w => rootOf9_any rest w hrest)
  have hrr := rootN_le hrest
  obtain ⟨X, hX⟩ : ∃ X, min most (rootN rest) = X := ⟨_, rfl⟩
  rw [hX] at hL ⊢
  have hX3 : X ≤ 1000 := by omega
  have HXR := hid (show X * X ≤ rest by
    have := Nat.mul_le_mul (show X ≤ rootN rest by omega) (show X ≤ rootN rest by omega)
    have := (rootN_spec rest).1; omega)
  obtain ⟨Z, hZ⟩ : ∃ Z, lpM [] 1 rest (X + 1) = Z := ⟨_, rfl⟩
  rw [hZ] at hL ⊢
  have HZ0 := hid hZ
  have HL := hid hL
  have HP := hid hP
  have HJ1 := hid (hJ.new P pre W #[.int .i64 0, .int .i64 0] 71 h)
  have HB0 := hid (SBox.new W [0, 0] #[.int .i64 0, .int .i64 0] 71 rfl)
  have HK0 := hid (fun b (hb : P b) => Below.heap_alloc W (.cells #[.int .i64 0, .int .i64 0] 71) b (hP b hb))
  have c0 := (HB0.out 0 0 rfl).1
  have c1 := (HB0.out 1 0 rfl).1
  have HB0s := hid (show (W.alloc (.cells #[.int .i64 0, .int .i64 0] 71)).heap.size = W.heap.size + 1 by simp)
  obtain ⟨R, hR⟩ : ∃ R, rootN rest = R := ⟨_, rfl⟩
  rw [hR] at HRT hX hrr
  clear h hP hL hZ hR
  have key : (X = R ∧ (R : Int) ≤ (most : Int)) ∨ (X = most ∧ ¬ (R : Int) ≤ (most : Int)) := by omega
  clear hX
  rcases key with ⟨hXe, hle0⟩ | ⟨hXe, hle0⟩
  · subst hXe
    go_enter Try.func135, Try.ntmps135
    go_wp2_with (go_at_call 143; refine (HRT.out _).mono ?_; rintro e w2 ⟨rfl, rfl⟩)
    clear c0 c1
    obtain ⟨B, hB⟩ : ∃ B, W.heap.size = B := ⟨_, rfl⟩
    rw [hB] at HB0 HB0s ⊢
    have HBB := hid hB
    clear hB
    go_loopw [14] (fun o wr => ∃ (y : Nat) (D : List (List Int)) (z : Int), y ≤ X + 1 ∧ o = .int .i64 ((y : Int) - 1) ∧ J (fun b => P b ∨ b = B) (pre ++ D) wr ∧ D ++ lpM [] 1 rest y = Z ∧ SBox wr B [z, 0] ∧ B < wr.heap.size ∧ ∀ b, P b → wr.heap[b]? = W.heap[b]?) (fun o _ => (intOf o + 1).toNat)
    case atStart => exact ⟨X + 1, [], 0, Nat.le_refl _, by simp, by simpa [HBB.out] using HJ1.out, by simpa using HZ0.out, HB0.out, by rw [HB0s.out]; omega, HK0.out⟩
    case round =>
      obtain ⟨y, D, z, hy, rfl, hJr, hDr, hBr, hBs, hKr⟩ := hrel
      have HJr := hid hJr
      have HDr := hid hDr
      have HBr := hid hBr
      have HBs := hid hBs
      have HKr := hid hKr
      clear hJr hDr hBr hBs hKr
      by_cases h0 : y = 0
      · subst h0
        have HN := hid (show D = Z by rw [← HDr.out]; simp [lpM, lpY])
        go_wp2_with fail
        go_ret
        exact .inl ⟨rfl, by rw [← HN.out]; exact hJ.weak _ _ _ _ HJr.out (fun b hb => .inl hb), HKr.out⟩
      · obtain ⟨x, rfl⟩ : ∃ x, y = x + 1 := ⟨y - 1, by omega⟩
        rw [show ((x + 1 : Nat) : Int) - 1 = (x : Int) by omega]
        have hxX : x ≤ X := by omega
        have hxx : 0 ≤ (x : Int) * (x : Int) ∧ (x : Int) * (x : Int) ≤ 1000000 := by
          have := Nat.mul_le_mul (show x ≤ 1000 by omega) (show x ≤ 1000 by omega)
          rw [← Int.natCast_mul]; omega
        have hkx : 2 * (x : Int) * (x : Int) = 2 * ((x : Int) * (x : Int)) := Int.mul_assoc _ _ _
        have hkxx : 0 ≤ 2 * (x : Int) * (x : Int) ∧ 2 * (x : Int) * (x : Int) ≤ 4000000 := by omega
        by_cases hst : (rest : Int) ≤ 2 * (x : Int) * (x : Int)
        · have HST := hid (show sqStop 1 rest x = false from decide_eq_false (by
            have h3 : ((1 + 1) * x * x : Nat) = 2 * (x * x) := by rw [Nat.mul_assoc]
            rw [h3]
            rw [hkx, ← Int.natCast_mul] at hst; omega))
          have hxr : x * x ≤ rest := by
            have h1 := Nat.mul_le_mul hxX hxX
            have h2 := HXR.out
            omega
          obtain ⟨m, hm⟩ : ∃ m, rest - x * x = m := ⟨_, rfl⟩
          have hnx : (rest : Int) - (x : Int) * (x : Int) = (m : Int) := by rw [← Int.natCast_mul]; omega
          have hm6 : m ≤ 1000000 := by omega
          have HZ := hid (show lpM [] 1 rest (x + 1) = ((Sq.sqL 1 m x).map ([(x : Int)] ++ ·)) ++ lpM [] 1 rest x by rw [lpM_go HST.out, hm]; rfl)
          have c0 := HBr.out 0 z rfl
          have HB2 := hid (HBr.out.set 0 (x : Int))
          have HJ2 := hid (hJ.set _ _ _ B 0 (.int .i64 (x : Int)) HJr.out (.inr rfl))
          have HS2 := hid (show (wr.setCell ⟨B, 0, none⟩ (.int .i64 (x : Int))).heap.size = wr.heap.size by simp)
          have HK2 := hid (fun b (hb : P b) => (heap_setCell_other wr ⟨B, 0, none⟩ b (.int .i64 (x : Int)) (by have h1 := HP.out b hb; have h2 := HBB.out; simp only; omega)).trans (HKr.out b hb))
          have HC := hid (each2_1 hJ hY  x (fun b => P b ∨ b = B) (pre ++ D) m x _ HJ2.out (by omega) (by omega) (by
            intro b hb
            rw [HS2.out]
            rcases hb with hb | rfl
            · have h1 := HP.out b hb; have h2 := HBs.out; have h3 := HBB.out; omega
            · exact HBs.out) (by
            have h1 := HL.out
            rw [← HDr.out, HZ.out] at h1
            exact pre_part h1))
          obtain ⟨cc0, ff0⟩ := c0
          have d0 := (HB2.out 0 (x : Int) rfl).1
          have d1 := (HB2.out 1 0 rfl).1
          clear hm HST
          go_wp2_with (go_at_call 135; refine HC.out.mono ?_; rintro e w3 (⟨rfl, hJ3, hk3⟩ | ⟨rfl, q, hq, hx3⟩))
          · have HB3 := hid (SBox.keep HB2.out (hk3 B (.inr rfl)))
            have HS3 := hid (show B < w3.heap.size from World.block_lt_of_cell? w3 ⟨B, 0, none⟩ (HB3.out 0 x rfl).1)
            go_roundw
            case rel => exact ⟨x, D ++ ((Sq.sqL 1 m x).map ([(x : Int)] ++ ·)), x, by omega, by go_num, by rw [← List.append_assoc]; exact hJ3, by rw [List.append_assoc, ← HZ.out]; exact HDr.out, HB3.out, HS3.out, fun b hb => (hk3 b (.inl hb)).trans (HK2.out b hb)⟩
            case measure => simp [intOf]
          · go_ret
            refine .inr ⟨rfl, D ++ q, ?_, by rw [← List.append_assoc]; exact hx3⟩
            rw [← HDr.out, HZ.out]
            obtain ⟨t, ht⟩ := hq
            exact ⟨t ++ lpM [] 1 rest x, by rw [← ht]; simp⟩
        · have hst' : decide ((rest : Int) ≤ 2 * (x : Int) * (x : Int)) = false := decide_eq_false hst
          have HN := hid (show D = Z by
            rw [← HDr.out, lpM_stop (decide_eq_true (by
              have h3 : ((1 + 1) * x * x : Nat) = 2 * (x * x) := by rw [Nat.mul_assoc]
              rw [h3]
              rw [hkx, ← Int.natCast_mul] at hst; omega))]; simp)
          go_wp2_with fail
          go_ret
          exact .inl ⟨rfl, by rw [← HN.out]; exact hJ.weak _ _ _ _ HJr.out (fun b hb => .inl hb), HKr.out⟩
  · subst hXe
    go_enter Try.func135, Try.ntmps135
    go_wp2_with (go_at_call 143; refine (HRT.out _).mono ?_; rintro e w2 ⟨rfl, rfl⟩)
    clear c0 c1
    obtain ⟨B, hB⟩ : ∃ B, W.heap.size = B := ⟨_, rfl⟩
    rw [hB] at HB0 HB0s ⊢
    have HBB := hid hB
    clear hB
    go_loopw [14] (fun o wr => ∃ (y : Nat) (D : List (List Int)) (z : Int), y ≤ X + 1 ∧ o = .int .i64 ((y : Int) - 1) ∧ J (fun b => P b ∨ b = B) (pre ++ D) wr ∧ D ++ lpM [] 1 rest y = Z ∧ SBox wr B [z, 0] ∧ B < wr.heap.size ∧ ∀ b, P b → wr.heap[b]? = W.heap[b]?) (fun o _ => (intOf o + 1).toNat)
    case atStart => exact ⟨X + 1, [], 0, Nat.le_refl _, by simp, by simpa [HBB.out] using HJ1.out, by simpa using HZ0.out, HB0.out, by rw [HB0s.out]; omega, HK0.out⟩
    case round =>
      obtain ⟨y, D, z, hy, rfl, hJr, hDr, hBr, hBs, hKr⟩ := hrel
      have HJr := hid hJr
      have HDr := hid hDr
      have HBr := hid hBr
      have HBs := hid hBs
      have HKr := hid hKr
      clear hJr hDr hBr hBs hKr
      by_cases h0 : y = 0
      · subst h0
        have HN := hid (show D = Z by rw [← HDr.out]; simp [lpM, lpY])
        go_wp2_with fail
        go_ret
        exact .inl ⟨rfl, by rw [← HN.out]; exact hJ.weak _ _ _ _ HJr.out (fun b hb => .inl hb), HKr.out⟩
      · obtain ⟨x, rfl⟩ : ∃ x, y = x + 1 := ⟨y - 1, by omega⟩
        rw [show ((x + 1 : Nat) : Int) - 1 = (x : Int) by omega]
        have hxX : x ≤ X := by omega
        have hxx : 0 ≤ (x : Int) * (x : Int) ∧ (x : Int) * (x : Int) ≤ 1000000 := by
          have := Nat.mul_le_mul (show x ≤ 1000 by omega) (show x ≤ 1000 by omega)
          rw [← Int.natCast_mul]; omega
        have hkx : 2 * (x : Int) * (x : Int) = 2 * ((x : Int) * (x : Int)) := Int.mul_assoc _ _ _
        have hkxx : 0 ≤ 2 * (x : Int) * (x : Int) ∧ 2 * (x : Int) * (x : Int) ≤ 4000000 := by omega
        by_cases hst : (rest : Int) ≤ 2 * (x : Int) * (x : Int)
        · have HST := hid (show sqStop 1 rest x = false from decide_eq_false (by
            have h3 : ((1 + 1) * x * x : Nat) = 2 * (x * x) := by rw [Nat.mul_assoc]
            rw [h3]
            rw [hkx, ← Int.natCast_mul] at hst; omega))
          have hxr : x * x ≤ rest := by
            have h1 := Nat.mul_le_mul hxX hxX
            have h2 := HXR.out
            omega
          obtain ⟨m, hm⟩ : ∃ m, rest - x * x = m := ⟨_, rfl⟩
          have hnx : (rest : Int) - (x : Int) * (x : Int) = (m : Int) := by rw [← Int.natCast_mul]; omega
          have hm6 : m ≤ 1000000 := by omega
          have HZ := hid (show lpM [] 1 rest (x + 1) = ((Sq.sqL 1 m x).map ([(x : Int)] ++ ·)) ++ lpM [] 1 rest x by rw [lpM_go HST.out, hm]; rfl)
          have c0 := HBr.out 0 z rfl
          have HB2 := hid (HBr.out.set 0 (x : Int))
          have HJ2 := hid (hJ.set _ _ _ B 0 (.int .i64 (x : Int)) HJr.out (.inr rfl))
          have HS2 := hid (show (wr.setCell ⟨B, 0, none⟩ (.int .i64 (x : Int))).heap.size = wr.heap.size by simp)
          have HK2 := hid (fun b (hb : P b) => (heap_setCell_other wr ⟨B, 0, none⟩ b (.int .i64 (x : Int)) (by have h1 := HP.out b hb; have h2 := HBB.out; simp only; omega)).trans (HKr.out b hb))
          have HC := hid (each2_1 hJ hY  x (fun b => P b ∨ b = B) (pre ++ D) m x _ HJ2.out (by omega) (by omega) (by
            intro b hb
            rw [HS2.out]
            rcases hb with hb | rfl
            · have h1 := HP.out b hb; have h2 := HBs.out; have h3 := HBB.out; omega
            · exact HBs.out) (by
            have h1 := HL.out
            rw [← HDr.out, HZ.out] at h1
            exact pre_part h1))
          obtain ⟨cc0, ff0⟩ := c0
          have d0 := (HB2.out 0 (x : Int) rfl).1
          have d1 := (HB2.out 1 0 rfl).1
          clear hm HST
          go_wp2_with (go_at_call 135; refine HC.out.mono ?_; rintro e w3 (⟨rfl, hJ3, hk3⟩ | ⟨rfl, q, hq, hx3⟩))
          · have HB3 := hid (SBox.keep HB2.out (hk3 B (.inr rfl)))
            have HS3 := hid (show B < w3.heap.size from World.block_lt_of_cell? w3 ⟨B, 0, none⟩ (HB3.out 0 x rfl).1)
            go_roundw
            case rel => exact ⟨x, D ++ ((Sq.sqL 1 m x).map ([(x : Int)] ++ ·)), x, by omega, by go_num, by rw [← List.append_assoc]; exact hJ3, by rw [List.append_assoc, ← HZ.out]; exact HDr.out, HB3.out, HS3.out, fun b hb => (hk3 b (.inl hb)).trans (HK2.out b hb)⟩
            case measure => simp [intOf]
          · go_ret
            refine .inr ⟨rfl, D ++ q, ?_, by rw [← List.append_assoc]; exact hx3⟩
            rw [← HDr.out, HZ.out]
            obtain ⟨t, ht⟩ := hq
            exact ⟨t ++ lpM [] 1 rest x, by rw [← ht]; simp⟩
        · have hst' : decide ((rest : Int) ≤ 2 * (x : Int) * (x : Int)) = false := decide_eq_false hst
          have HN := hid (show D = Z by
            rw [← HDr.out, lpM_stop (decide_eq_true (by
              have h3 : ((1 + 1) * x * x : Nat) = 2 * (x * x) := by rw [Nat.mul_assoc]
              rw [h3]
              rw [hkx, ← Int.natCast_mul] at hst; omega))]; simp)
          go_wp2_with fail
          go_ret
          exact .inl ⟨rfl, by rw [← HN.out]; exact hJ.weak _ _ _ _ HJr.out (fun b hb => .inl hb), HKr.out⟩
end Go.Proofs.Ytofmmegpadojlaa
