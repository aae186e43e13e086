/- Triples modulo a prime number: solvesModulo (the program), mkMod (the model). -/
import Derived.Test.YtjnhhjnfdaaaeabMkC
namespace Go.Proofs.Ytjnhhjnfdaaaeab
open Go.RowKit

def diff3 (x y z : Int) : Int := x * x + y * y + z * z - 3 * x * y * z
def modT (p x y z : Int) : Bool := !(x == 0 && (y == 0 && z == 0)) && ((diff3 x y z).tmod p == 0)
def modGood (p : Int) (zs : List Int) : Bool := decide (zs.length = 3) && zs.all (within 0 (p - 1)) && modT p (zs.getD 0 0) (zs.getD 1 0) (zs.getD 2 0)
theorem modGood3 (p x y z : Int) : modGood p [x, y, z] = ([x, y, z].all (within 0 (p - 1)) && modT p x y z) := by simp [modGood]
def Sm (x : Int) : Prop := 0 ≤ x ∧ x ≤ 12
theorem mul_sm {x y a b : Int} (hx : 0 ≤ x ∧ x ≤ a) (hy : 0 ≤ y ∧ y ≤ b) : 0 ≤ x * y ∧ x * y ≤ a * b :=
  ⟨Int.mul_nonneg hx.1 hy.1, Int.mul_le_mul hx.2 hy.2 hy.1 (by omega)⟩

set_option maxRecDepth 20000 in
set_option maxHeartbeats 2000000 in
theorem solvesModulo_exact (x y z p : Int) (w : World) (hx : Sm x) (hy : Sm y) (hz : Sm z) (hp : 2 ≤ p ∧ p ≤ 13) :
    Calls Try.prog 108 #[.agg #[.int .i64 x, .int .i64 y, .int .i64 z], .int .i64 p] w fun e w' => e = .returned (.bool (modT p x y z)) ∧ w' = w.alloc (.cells #[.int .i64 x, .int .i64 y, .int .i64 z] 59) := by
  have a1 := mul_sm hx hx
  have a2 := mul_sm hy hy
  have a3 := mul_sm hz hz
  have b0 : 0 ≤ 3 * x ∧ 3 * x ≤ 36 := by have := hx.1; have := hx.2; omega
  have b1 := mul_sm b0 hy
  have b2 := mul_sm b1 hz
  have hD := hid (show modT p x y z = (!(x == 0 && (y == 0 && z == 0)) && ((diff3 x y z).tmod p == 0)) from rfl)
  have hdd : diff3 x y z = x * x + y * y + z * z - 3 * x * y * z := rfl
  obtain ⟨d, hd⟩ : ∃ d, x * x + y * y + z * z - 3 * x * y * z = d := ⟨_, rfl⟩
  have w1 : IntKind.i64.wrap (x * x) = x * x := by rw [IntWalk.i64_left]; exact IntWalk.wrap64_in _ (by omega)
  have w2 : IntKind.i64.wrap (y * y) = y * y := by rw [IntWalk.i64_left]; exact IntWalk.wrap64_in _ (by omega)
  have w3 : IntKind.i64.wrap (z * z) = z * z := by rw [IntWalk.i64_left]; exact IntWalk.wrap64_in _ (by omega)
  have w4 : IntKind.i64.wrap (x * x + y * y) = x * x + y * y := by rw [IntWalk.i64_left]; exact IntWalk.wrap64_in _ (by omega)
  have w5 : IntKind.i64.wrap (x * x + y * y + z * z) = x * x + y * y + z * z := by rw [IntWalk.i64_left]; exact IntWalk.wrap64_in _ (by omega)
  have w6 : IntKind.i64.wrap (3 * x) = 3 * x := by rw [IntWalk.i64_left]; exact IntWalk.wrap64_in _ (by omega)
  have w7 : IntKind.i64.wrap (3 * x * y) = 3 * x * y := by rw [IntWalk.i64_left]; exact IntWalk.wrap64_in _ (by omega)
  have w8 : IntKind.i64.wrap (3 * x * y * z) = 3 * x * y * z := by rw [IntWalk.i64_left]; exact IntWalk.wrap64_in _ (by omega)
  have w9 : IntKind.i64.wrap (x * x + y * y + z * z - 3 * x * y * z) = d := by rw [← hd, IntWalk.i64_left]; exact IntWalk.wrap64_in _ (by omega)
  rw [hdd, hd] at hD
  obtain ⟨r, hr⟩ : ∃ r, d.tmod p = r := ⟨_, rfl⟩
  rw [hr] at hD
  have z0 : ¬ p = 0 := by omega
  have heq := eqTri x y z 0 0 0
  have c0 : (w.alloc (.cells #[.int .i64 x, .int .i64 y, .int .i64 z] 59)).cell? ⟨w.heap.size, 0, none⟩ = some (.int .i64 x) := by simp [go_sem]
  have c1 : (w.alloc (.cells #[.int .i64 x, .int .i64 y, .int .i64 z] 59)).cell? ⟨w.heap.size, 1, none⟩ = some (.int .i64 y) := by simp [go_sem]
  have c2 : (w.alloc (.cells #[.int .i64 x, .int .i64 y, .int .i64 z] 59)).cell? ⟨w.heap.size, 2, none⟩ = some (.int .i64 z) := by simp [go_sem]
  obtain ⟨B, hB⟩ : ∃ B, (x == 0 && (y == 0 && z == 0)) = B := ⟨_, rfl⟩
  rw [hB] at heq hD
  clear hd hdd a1 a2 a3 b0 b1 b2 hB
  cases B
  all_goals
    go_enter Try.func108, Try.ntmps108
    go_wp2_with fail
    go_ret
    exact ⟨ret_bool (by rw [hD.out]; rfl), rfl⟩

theorem solvesModulo_any (x y z p : Int) (w : World) (hx : Sm x) (hy : Sm y) (hz : Sm z) (hp : 2 ≤ p ∧ p ≤ 13) :
    Calls Try.prog 108 #[.agg #[.int .i64 x, .int .i64 y, .int .i64 z], .int .i64 p] w fun e w' => e = .returned (.bool (modT p x y z)) ∧ Later w w' :=
  (solvesModulo_exact x y z p w hx hy hz hp).mono fun _ _ h => ⟨h.1, by rw [h.2]; exact Later.alloc _ _⟩

theorem sum_zero {x y z : Int} (hx : 0 ≤ x) (hy : 0 ≤ y) (hz : 0 ≤ z) : (x + y + z == 0) = (x == 0 && (y == 0 && z == 0)) := by
  rw [Bool.eq_iff_iff]; simp only [beq_iff_eq, Bool.and_eq_true]; omega

set_option maxRecDepth 20000 in
set_option maxHeartbeats 2000000 in
theorem mkMod_any (p : Int) (v : Value) (zs : List Int) (w : World) (hp : 2 ≤ p ∧ p ≤ 13) (h : Ints w v zs) :
    Calls Try.prog 68 #[.int .i64 p, v] w fun e w' => e = .returned (.bool (modGood p zs)) ∧ Quiet w w' := by
  have wp : IntKind.i64.wrap (p - 1) = p - 1 := by rw [IntWalk.i64_left]; exact IntWalk.wrap64_in _ (by omega)
  by_cases h3 : zs.length = 3
  · obtain ⟨x, y, z, ad, cap, rfl, rfl, c0, c1, c2⟩ := h.three h3
    have H := hid h
    clear h h3
    cases hcn : [x, y, z].all (within 0 (p - 1))
    · have HA := hid (show modGood p [x, y, z] = false by rw [modGood3, hcn]; rfl)
      have HC := hid hcn
      clear hcn
      go_enter Try.func68, Try.ntmps68
      go_wp2_with fail
      go_quiet (first | (go_at_call 74; exact Calls.quiet_of_same ((l1All_as (.slice (some ad) 3 cap) [x, y, z] 0 (p - 1) false _ HC.out (H.out.later (Later.drewN _ _))).mono fun _ _ ⟨a, b⟩ => ⟨a, b.symm⟩)))
      go_wp2_with fail
      go_ret
      exact ⟨ret_bool HA.out.symm, _, rfl⟩
    · have HC := hid hcn
      have hb : (0 ≤ x ∧ x ≤ 12) ∧ (0 ≤ y ∧ y ≤ 12) ∧ (0 ≤ z ∧ z ≤ 12) := by simp [within] at hcn; omega
      obtain ⟨hx, hy, hz⟩ := hb
      have a1 := mul_sm hx hx
      have a2 := mul_sm hy hy
      have a3 := mul_sm hz hz
      have b0 : 0 ≤ 3 * x ∧ 3 * x ≤ 36 := by omega
      have b1 := mul_sm b0 hy
      have b2 := mul_sm b1 hz
      have hD := hid (show modGood p [x, y, z] = (!(x + y + z == 0) && ((diff3 x y z).tmod p == 0)) by rw [modGood3, hcn, sum_zero hx.1 hy.1 hz.1]; rfl)
      have hdd : diff3 x y z = x * x + y * y + z * z - 3 * x * y * z := rfl
      obtain ⟨d, hd⟩ : ∃ d, x * x + y * y + z * z - 3 * x * y * z = d := ⟨_, rfl⟩
      have w1 : IntKind.i64.wrap (x * x) = x * x := by rw [IntWalk.i64_left]; exact IntWalk.wrap64_in _ (by omega)
      have w2 : IntKind.i64.wrap (y * y) = y * y := by rw [IntWalk.i64_left]; exact IntWalk.wrap64_in _ (by omega)
      have w3 : IntKind.i64.wrap (z * z) = z * z := by rw [IntWalk.i64_left]; exact IntWalk.wrap64_in _ (by omega)
      have w4 : IntKind.i64.wrap (x * x + y * y) = x * x + y * y := by rw [IntWalk.i64_left]; exact IntWalk.wrap64_in _ (by omega)
      have w5 : IntKind.i64.wrap (x * x + y * y + z * z) = x * x + y * y + z * z := by rw [IntWalk.i64_left]; exact IntWalk.wrap64_in _ (by omega)
      have w6 : IntKind.i64.wrap (3 * x) = 3 * x := by rw [IntWalk.i64_left]; exact IntWalk.wrap64_in _ (by omega)
      have w7 : IntKind.i64.wrap (3 * x * y) = 3 * x * y := by rw [IntWalk.i64_left]; exact IntWalk.wrap64_in _ (by omega)
      have w8 : IntKind.i64.wrap (3 * x * y * z) = 3 * x * y * z := by rw [IntWalk.i64_left]; exact IntWalk.wrap64_in _ (by omega)
      have w9 : IntKind.i64.wrap (x * x + y * y + z * z - 3 * x * y * z) = d := by rw [← hd, IntWalk.i64_left]; exact IntWalk.wrap64_in _ (by omega)
      have v1 : IntKind.i64.wrap (x + y) = x + y := by rw [IntWalk.i64_left]; exact IntWalk.wrap64_in _ (by omega)
      have v2 : IntKind.i64.wrap (x + y + z) = x + y + z := by rw [IntWalk.i64_left]; exact IntWalk.wrap64_in _ (by omega)
      rw [hdd, hd] at hD
      obtain ⟨r, hr⟩ : ∃ r, d.tmod p = r := ⟨_, rfl⟩
      rw [hr] at hD
      have z0 : ¬ p = 0 := by omega
      clear hd hdd a1 a2 a3 b0 b1 b2 hcn
      cases hB : (x + y + z == 0)
      · rw [hB] at hD
        go_enter Try.func68, Try.ntmps68
        go_wp2_with fail
        go_quiet (first | (go_at_call 74; exact Calls.quiet_of_same ((l1All_as (.slice (some ad) 3 cap) [x, y, z] 0 (p - 1) true _ HC.out (H.out.later (Later.drewN _ _))).mono fun _ _ ⟨a, b⟩ => ⟨a, b.symm⟩)))
        replace c0 := (Later.drewN w nq).cell c0
        replace c1 := (Later.drewN w nq).cell c1
        replace c2 := (Later.drewN w nq).cell c2
        have HQ := hid (show Quiet w (w.drewN nq) from ⟨_, rfl⟩)
        generalize w.drewN nq = wq at c0 c1 c2 HQ ⊢
        go_wp2_with fail
        go_quiet (fail)
        go_wp2_with fail
        go_ret
        exact ⟨ret_bool (by rw [hD.out]; rfl), by obtain ⟨n, rfl⟩ := HQ.out; exact ⟨_, by rw [World.drewN_drewN]⟩⟩
      · rw [hB] at hD
        go_enter Try.func68, Try.ntmps68
        go_wp2_with fail
        go_quiet (first | (go_at_call 74; exact Calls.quiet_of_same ((l1All_as (.slice (some ad) 3 cap) [x, y, z] 0 (p - 1) true _ HC.out (H.out.later (Later.drewN _ _))).mono fun _ _ ⟨a, b⟩ => ⟨a, b.symm⟩)))
        go_wp2_with fail
        go_ret
        exact ⟨ret_bool (by rw [hD.out]; rfl), _, rfl⟩
  · have HA := hid (show modGood p zs = false by unfold modGood; rw [decide_eq_false h3]; simp)
    obtain ⟨a, cap, rfl, hl, _⟩ := id h
    have hn : ((zs.length : Int) != 3) = true := by simp; omega
    clear h h3
    go_enter Try.func68, Try.ntmps68
    go_wp2_with fail
    go_quiet (fail)
    go_wp2_with fail
    go_ret
    exact ⟨ret_bool HA.out.symm, _, rfl⟩
theorem mkMod_as (p : Int) (v : Value) (zs : List Int) (b : Bool) (w : World) (hp : 2 ≤ p ∧ p ≤ 13) (hb : modGood p zs = b) (h : Ints w v zs) :
    Calls Try.prog 68 #[.int .i64 p, v] w fun e w' => e = .returned (.bool b) ∧ Quiet w w' := by
  subst hb; exact mkMod_any p v zs w hp h
end Go.Proofs.Ytjnhhjnfdaaaeab
