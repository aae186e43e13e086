/- CiS, CiP: in one text. -/
import Derived.Test.YtoaopmafokoaoaaCiTA
import Derived.Deep.RegionHeld3
namespace Go.Proofs.Ytoaopmafokoaoaa
open Go.RowKit


def ciIn (t : Ci4) : Bool := [t.1, t.2.1, t.2.2.1, t.2.2.2].all (within (-1000000) 1000000)
def ciB (t : Ci4) : Bool := ciIn t && (t.2.2.1 * t.2.2.1 + t.2.2.2 * t.2.2.2 - t.1 * t.2.1 == 1)
def ciTw (c d : Ci4) : Int := 2 * c.2.2.1 * d.2.2.1 + 2 * c.2.2.2 * d.2.2.2 - c.1 * d.2.1 - c.2.1 * d.1
theorem ciIn_bd {a b x y : Int} (h : ciIn (a, b, x, y) = true) : (-1000000 ≤ a ∧ a ≤ 1000000) ∧ (-1000000 ≤ b ∧ b ≤ 1000000) ∧ (-1000000 ≤ x ∧ x ≤ 1000000) ∧ (-1000000 ≤ y ∧ y ≤ 1000000) := by
  simp [ciIn, within] at h; omega
theorem ciB_in {t : Ci4} (h : ciB t = true) : ciIn t = true := by
  unfold ciB at h; rw [Bool.and_eq_true] at h; exact h.1
theorem mulM_bd {p q M N : Int} (hp : -M ≤ p ∧ p ≤ M) (hq : -N ≤ q ∧ q ≤ N) : -(M * N) ≤ p * q ∧ p * q ≤ M * N := by
  have hM : 0 ≤ M := by omega
  have hN : 0 ≤ N := by omega
  have h1 : 0 ≤ (M - p) * (N + q) := Int.mul_nonneg (by omega) (by omega)
  have h2 : 0 ≤ (M + p) * (N - q) := Int.mul_nonneg (by omega) (by omega)
  have h3 : 0 ≤ (M - p) * (N - q) := Int.mul_nonneg (by omega) (by omega)
  have h4 : 0 ≤ (M + p) * (N + q) := Int.mul_nonneg (by omega) (by omega)
  constructor <;> grind

theorem OwnInts.lit4 (w : World) (a b x y : Int) : OwnInts w.heap.size (w.alloc (.cells #[.int .i64 a, .int .i64 b, .int .i64 x, .int .i64 y] 3)).heap.size (w.alloc (.cells #[.int .i64 a, .int .i64 b, .int .i64 x, .int .i64 y] 3)) (.slice (some ⟨w.heap.size, 0, none⟩) 4 4) [a, b, x, y] := by
  have h := World.ownsRow_lit (e := 3) (size := 1) w #[.int .i64 a, .int .i64 b, .int .i64 x, .int .i64 y] 4 (Nat.le_refl _) (by unfold maxLen; omega) (by simp)
  refine ⟨h, fun k hk => ?_⟩
  simp [Value.ownBlock] at hk ⊢
  omega

theorem numbers_any (a b x y : Int) (w : World) :
    Calls Try.prog 126 #[.agg #[.int .i64 a, .int .i64 b, .int .i64 x, .int .i64 y]] w fun e w' => MadeInts w [a, b, x, y] e w' := by
  have HL := hid (Later.alloc w (.cells #[.int .i64 a, .int .i64 b, .int .i64 x, .int .i64 y] 103))
  have HO := hid (OwnInts.lit4 (w.alloc (.cells #[.int .i64 a, .int .i64 b, .int .i64 x, .int .i64 y] 103)) a b x y)
  have HL2 := hid (Later.alloc (w.alloc (.cells #[.int .i64 a, .int .i64 b, .int .i64 x, .int .i64 y] 103)) (.cells #[.int .i64 a, .int .i64 b, .int .i64 x, .int .i64 y] 3))
  go_enter Try.func126, Try.ntmps126
  go_wp2_with fail
  go_ret
  exact ⟨_, rfl, by simpa using HO.out.wide HL.out.size (Nat.le_refl _), HL.out.trans HL2.out⟩

/-- four cells that may not be written by anybody else -/
def CBox (w : World) (B : Nat) (a b x y : Int) : Prop :=
  w.cell? ⟨B, 0, none⟩ = some (.int .i64 a) ∧ w.cell? ⟨B, 1, none⟩ = some (.int .i64 b) ∧ w.cell? ⟨B, 2, none⟩ = some (.int .i64 x) ∧ w.cell? ⟨B, 3, none⟩ = some (.int .i64 y)
theorem CBox.new (w : World) (a b x y : Int) (t : TypeId) : CBox (w.alloc (.cells #[.int .i64 a, .int .i64 b, .int .i64 x, .int .i64 y] t)) w.heap.size a b x y :=
  ⟨by simp [go_sem], by simp [go_sem], by simp [go_sem], by simp [go_sem]⟩
theorem CBox.later {w w' : World} {B : Nat} {a b x y : Int} (h : CBox w B a b x y) (k : Later w w') : CBox w' B a b x y := ⟨k.cell h.1, k.cell h.2.1, k.cell h.2.2.1, k.cell h.2.2.2⟩
theorem ciB_of_in {t : Ci4} (h : ciIn t = false) : ciB t = false := by unfold ciB; rw [h]; rfl
theorem ciB_at {a b x y : Int} (h : ciIn (a, b, x, y) = true) : ciB (a, b, x, y) = (x * x + y * y - a * b == 1) := by unfold ciB; rw [h]; rfl

theorem wr64 {z : Int} (h : -9223372036854775808 ≤ z ∧ z ≤ 9223372036854775807) : IntKind.i64.wrap z = z := by rw [IntWalk.i64_left]; exact IntWalk.wrap64_in _ (by omega)

set_option maxRecDepth 20000 in
set_option maxHeartbeats 1000000 in
theorem isCircle_any (a b x y : Int) (w : World) :
    Calls Try.prog 89 #[.agg #[.int .i64 a, .int .i64 b, .int .i64 x, .int .i64 y]] w fun e w' => BoolRes w (ciB (a, b, x, y)) e w' := by
  have HL := hid (Later.alloc w (.cells #[.int .i64 a, .int .i64 b, .int .i64 x, .int .i64 y] 103))
  have HC := hid (CBox.new w a b x y 103)
  cases hin : ciIn (a, b, x, y)
  · have HB := hid (ciB_of_in hin)
    have HI := hid hin
    clear hin
    go_enter Try.func89, Try.ntmps89
    go_wp2_with fail
    generalize w.alloc (.cells #[.int .i64 a, .int .i64 b, .int .i64 x, .int .i64 y] 103) = w1 at HL HC ⊢
    refine (numbers_any a b x y _).mono ?_
    rintro e w2 ⟨v, rfl, hO, hL⟩
    have HR := hid hO.ints
    have HL2 := hid (HL.out.trans hL)
    clear hO hL
    go_wp2_with fail
    refine (areWithin_as v [a, b, x, y] 1000000 false _ (by omega) HI.out HR.out).mono ?_
    rintro e w3 ⟨rfl, rfl⟩
    go_wp2_with fail
    go_ret
    exact ⟨ret_bool HB.out.symm, HL2.out⟩
  · have HB := hid (ciB_at hin)
    have HI := hid hin
    obtain ⟨⟨a1, a2⟩, ⟨b1, b2⟩, ⟨x1, x2⟩, y1, y2⟩ := ciIn_bd hin
    obtain ⟨p1, p2⟩ := mulM_bd ⟨x1, x2⟩ ⟨x1, x2⟩
    obtain ⟨q1, q2⟩ := mulM_bd ⟨y1, y2⟩ ⟨y1, y2⟩
    obtain ⟨r1, r2⟩ := mulM_bd ⟨a1, a2⟩ ⟨b1, b2⟩
    clear hin
    go_enter Try.func89, Try.ntmps89
    go_wp2_with fail
    generalize w.alloc (.cells #[.int .i64 a, .int .i64 b, .int .i64 x, .int .i64 y] 103) = w1 at HL HC ⊢
    refine (numbers_any a b x y _).mono ?_
    rintro e w2 ⟨v, rfl, hO, hL⟩
    have HR := hid hO.ints
    have HL2 := hid (HL.out.trans hL)
    obtain ⟨c0, c1, c2, c3⟩ := HC.out.later hL
    clear hO hL
    go_wp2_with fail
    refine (areWithin_as v [a, b, x, y] 1000000 true _ (by omega) HI.out HR.out).mono ?_
    rintro e w3 ⟨rfl, rfl⟩
    go_wp2_with fail
    go_ret
    exact ⟨ret_bool (by rw [HB.out]), HL2.out⟩

theorem isCircle_as (a b x y : Int) (o : Bool) (w : World) (h : ciB (a, b, x, y) = o) :
    Calls Try.prog 89 #[.agg #[.int .i64 a, .int .i64 b, .int .i64 x, .int .i64 y]] w fun e w' => BoolRes w o e w' := by
  subst h; exact isCircle_any a b x y w

set_option maxRecDepth 20000 in
set_option maxHeartbeats 1000000 in
theorem ciGood_any (a b x y : Int) (w : World) :
    Calls Try.prog 81 #[.agg #[.int .i64 a, .int .i64 b, .int .i64 x, .int .i64 y]] w fun e w' => BoolRes w (ciB (a, b, x, y)) e w' := by
  have HL := hid (Later.alloc w (.cells #[.int .i64 a, .int .i64 b, .int .i64 x, .int .i64 y] 103))
  have HC := hid (CBox.new w a b x y 103)
  have HO := hid (OwnInts.lit4 (w.alloc (.cells #[.int .i64 a, .int .i64 b, .int .i64 x, .int .i64 y] 103)) a b x y)
  have HL2 := hid (Later.alloc (w.alloc (.cells #[.int .i64 a, .int .i64 b, .int .i64 x, .int .i64 y] 103)) (.cells #[.int .i64 a, .int .i64 b, .int .i64 x, .int .i64 y] 3))
  have HC2 := hid (HC.out.later HL2.out)
  have HL3 := hid (HL.out.trans HL2.out)
  have HR := hid (show Ints ((w.alloc (.cells #[.int .i64 a, .int .i64 b, .int .i64 x, .int .i64 y] 103)).alloc (.cells #[.int .i64 a, .int .i64 b, .int .i64 x, .int .i64 y] 3)) (.slice (some ⟨w.heap.size + 1, 0, none⟩) 4 4) [a, b, x, y] from by simpa using HO.out.ints)
  clear HL HL2 HC HO
  cases hin : ciIn (a, b, x, y)
  · have HB := hid (ciB_of_in hin)
    have HI := hid hin
    clear hin
    go_enter Try.func81, Try.ntmps81
    go_wp2_with fail
    generalize (w.alloc (.cells #[.int .i64 a, .int .i64 b, .int .i64 x, .int .i64 y] 103)).alloc (.cells #[.int .i64 a, .int .i64 b, .int .i64 x, .int .i64 y] 3) = w1 at HL3 HC2 HR ⊢
    refine (l1All_as _ [a, b, x, y] _ _ false _ HI.out HR.out).mono ?_
    rintro e w3 ⟨rfl, rfl⟩
    go_wp2_with fail
    go_ret
    exact ⟨ret_bool HB.out.symm, HL3.out⟩
  · have HB := hid (ciB_at hin)
    have HI := hid hin
    obtain ⟨⟨a1, a2⟩, ⟨b1, b2⟩, ⟨x1, x2⟩, y1, y2⟩ := ciIn_bd hin
    obtain ⟨p1, p2⟩ := mulM_bd ⟨x1, x2⟩ ⟨x1, x2⟩
    obtain ⟨q1, q2⟩ := mulM_bd ⟨y1, y2⟩ ⟨y1, y2⟩
    obtain ⟨r1, r2⟩ := mulM_bd ⟨a1, a2⟩ ⟨b1, b2⟩
    clear hin
    go_enter Try.func81, Try.ntmps81
    go_wp2_with fail
    generalize (w.alloc (.cells #[.int .i64 a, .int .i64 b, .int .i64 x, .int .i64 y] 103)).alloc (.cells #[.int .i64 a, .int .i64 b, .int .i64 x, .int .i64 y] 3) = w1 at HL3 HC2 HR ⊢
    obtain ⟨c0, c1, c2, c3⟩ := HC2.out
    refine (l1All_as _ [a, b, x, y] _ _ true _ HI.out HR.out).mono ?_
    rintro e w3 ⟨rfl, rfl⟩
    go_wp2_with fail
    go_ret
    exact ⟨ret_bool (by rw [HB.out]), HL3.out⟩
theorem ciGood_as (a b x y : Int) (o : Bool) (w : World) (h : ciB (a, b, x, y) = o) :
    Calls Try.prog 81 #[.agg #[.int .i64 a, .int .i64 b, .int .i64 x, .int .i64 y]] w fun e w' => BoolRes w o e w' := by
  subst h; exact ciGood_any a b x y w

theorem ciTw_bd {a b x y p q r s : Int} (hc : ciIn (a, b, x, y) = true) (hd : ciIn (p, q, r, s) = true) : -6000000000000 ≤ ciTw (a, b, x, y) (p, q, r, s) ∧ ciTw (a, b, x, y) (p, q, r, s) ≤ 6000000000000 := by
  obtain ⟨⟨a1, a2⟩, ⟨b1, b2⟩, ⟨x1, x2⟩, y1, y2⟩ := ciIn_bd hc
  obtain ⟨⟨p1, p2⟩, ⟨q1, q2⟩, ⟨r1, r2⟩, s1, s2⟩ := ciIn_bd hd
  obtain ⟨u1, u2⟩ := mulM_bd (p := 2 * x) (M := 2000000) ⟨by omega, by omega⟩ ⟨r1, r2⟩
  obtain ⟨v1, v2⟩ := mulM_bd (p := 2 * y) (M := 2000000) ⟨by omega, by omega⟩ ⟨s1, s2⟩
  obtain ⟨t1, t2⟩ := mulM_bd ⟨a1, a2⟩ ⟨q1, q2⟩
  obtain ⟨z1, z2⟩ := mulM_bd ⟨b1, b2⟩ ⟨p1, p2⟩
  unfold ciTw
  simp only
  omega

set_option maxRecDepth 20000 in
set_option maxHeartbeats 1000000 in
theorem twiceP_any (a b x y p q r s : Int) (w : World) (hc : ciIn (a, b, x, y) = true) (hd : ciIn (p, q, r, s) = true) :
    Calls Try.prog 123 #[.agg #[.int .i64 a, .int .i64 b, .int .i64 x, .int .i64 y], .agg #[.int .i64 p, .int .i64 q, .int .i64 r, .int .i64 s]] w fun e w' => e = .returned (.int .i64 (ciTw (a, b, x, y) (p, q, r, s))) ∧ Later w w' := by
  obtain ⟨⟨a1, a2⟩, ⟨b1, b2⟩, ⟨x1, x2⟩, y1, y2⟩ := ciIn_bd hc
  obtain ⟨⟨p1, p2⟩, ⟨q1, q2⟩, ⟨r1, r2⟩, s1, s2⟩ := ciIn_bd hd
  obtain ⟨u1, u2⟩ := mulM_bd (p := 2 * x) (M := 2000000) ⟨by omega, by omega⟩ ⟨r1, r2⟩
  obtain ⟨v1, v2⟩ := mulM_bd (p := 2 * y) (M := 2000000) ⟨by omega, by omega⟩ ⟨s1, s2⟩
  obtain ⟨t1, t2⟩ := mulM_bd ⟨a1, a2⟩ ⟨q1, q2⟩
  obtain ⟨z1, z2⟩ := mulM_bd ⟨b1, b2⟩ ⟨p1, p2⟩
  clear hc hd
  have HL := hid ((Later.alloc w (.cells #[.int .i64 a, .int .i64 b, .int .i64 x, .int .i64 y] 103)).trans (Later.alloc _ (.cells #[.int .i64 p, .int .i64 q, .int .i64 r, .int .i64 s] 103)))
  go_enter Try.func123, Try.ntmps123
  go_wp2_with fail
  go_ret
  exact ⟨rfl, HL.out⟩
set_option maxRecDepth 20000 in
set_option maxHeartbeats 1000000 in
theorem twiceS_any (a b x y p q r s : Int) (w : World) (hc : ciIn (a, b, x, y) = true) (hd : ciIn (p, q, r, s) = true) :
    Calls Try.prog 121 #[.agg #[.int .i64 a, .int .i64 b, .int .i64 x, .int .i64 y], .agg #[.int .i64 p, .int .i64 q, .int .i64 r, .int .i64 s]] w fun e w' => e = .returned (.int .i64 (ciTw (a, b, x, y) (p, q, r, s))) ∧ Later w w' := by
  obtain ⟨⟨a1, a2⟩, ⟨b1, b2⟩, ⟨x1, x2⟩, y1, y2⟩ := ciIn_bd hc
  obtain ⟨⟨p1, p2⟩, ⟨q1, q2⟩, ⟨r1, r2⟩, s1, s2⟩ := ciIn_bd hd
  obtain ⟨u1, u2⟩ := mulM_bd (p := 2 * x) (M := 2000000) ⟨by omega, by omega⟩ ⟨r1, r2⟩
  obtain ⟨v1, v2⟩ := mulM_bd (p := 2 * y) (M := 2000000) ⟨by omega, by omega⟩ ⟨s1, s2⟩
  obtain ⟨t1, t2⟩ := mulM_bd ⟨a1, a2⟩ ⟨q1, q2⟩
  obtain ⟨z1, z2⟩ := mulM_bd ⟨b1, b2⟩ ⟨p1, p2⟩
  clear hc hd
  have HL := hid ((Later.alloc w (.cells #[.int .i64 a, .int .i64 b, .int .i64 x, .int .i64 y] 103)).trans (Later.alloc _ (.cells #[.int .i64 p, .int .i64 q, .int .i64 r, .int .i64 s] 103)))
  go_enter Try.func121, Try.ntmps121
  go_wp2_with fail
  go_ret
  exact ⟨rfl, HL.out⟩

/-! ### TwiceProduct, DoTouch -/
def twAns (c d : Ci4) : Option Int := if ciB c = true ∧ ciB d = true then some (ciTw c d) else none
def touchAns (c d : Ci4) : Option Bool := (twAns c d).map (· == -2)
theorem twAns_no1 {c d : Ci4} (h : ciB c = false) : twAns c d = none := by unfold twAns; rw [h]; simp
theorem twAns_no2 {c d : Ci4} (h : ciB d = false) : twAns c d = none := by unfold twAns; rw [h]; simp
theorem twAns_yes {c d : Ci4} (h : ciB c = true) (k : ciB d = true) : twAns c d = some (ciTw c d) := by unfold twAns; rw [h, k]; simp


end Go.Proofs.Ytoaopmafokoaoaa
