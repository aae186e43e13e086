/- Equations behind an interface; pairs that solve one. -/
import Derived.Test.YtdahhcigphhfdaaJpA
import Derived.Deep.RegionHeld3
import Derived.Deep.DeepCutAuto
namespace Go.Proofs.Ytdahhcigphhfdaa
open Go.RowKit

/-- What is asked of a value behind the interface: its method's function, what solves it. -/
structure EqS (T : TypeId) (m : Value) (Ks : FuncId) (S : Int → Int → Bool) : Prop where
  ms : ∀ (n : Nat) (w0 : World), (method (n + 1) T m "loop.example/g01122/impl.isSolvedBy").run Try.prog w0 = .ok (Ks, m) w0
  es : ∀ (args : Array Value) (w0 : World), (callFunc Ks args).run Try.prog w0 = .ok (.enter Ks args) w0
  cs : ∀ (x y : Int) (w0 : World), juN x y = true → Calls Try.prog Ks #[m, .agg #[.int .i64 x, .int .i64 y]] w0 fun e w' => BoolRes w0 (S x y) e w'
/-- And the factor of its other root. -/
structure EqJ (T : TypeId) (m : Value) (Ks Ko : FuncId) (S : Int → Int → Bool) (k : Int) : Prop where
  s : EqS T m Ks S
  mo : ∀ (n : Nat) (w0 : World), (method (n + 1) T m "loop.example/g01122/impl.otherRoot").run Try.prog w0 = .ok (Ko, m) w0
  eo : ∀ (args : Array Value) (w0 : World), (callFunc Ko args).run Try.prog w0 = .ok (.enter Ko args) w0
  co : ∀ (x y : Int) (w0 : World), 0 ≤ x ∧ x ≤ 1000000 → 0 ≤ y ∧ y ≤ 1000000 → Calls Try.prog Ko #[m, .int .i64 x, .int .i64 y] w0 fun e w' => e = .returned (.int .i64 (k * y - x)) ∧ Later w0 w'

theorem me_PS (n : Nat) (w : World) (k c : Int) : (method (n + 1) 74 (.agg #[.int .i64 k, .int .i64 c]) "loop.example/g01122/impl.isSolvedBy").run Try.prog w = .ok (198, .agg #[.int .i64 k, .int .i64 c]) w := by kernel_rfl
theorem me_PO (n : Nat) (w : World) (k c : Int) : (method (n + 1) 74 (.agg #[.int .i64 k, .int .i64 c]) "loop.example/g01122/impl.otherRoot").run Try.prog w = .ok (199, .agg #[.int .i64 k, .int .i64 c]) w := by kernel_rfl
set_option maxRecDepth 20000 in
set_option maxHeartbeats 2000000 in
theorem isWithin_any (k c : Int) (w : World) : Calls Try.prog 68 #[.agg #[.int .i64 k, .int .i64 c]] w fun e w' => BoolRes w (juW k c) e w' := by
  have HL := hid (Later.alloc w (.cells #[.int .i64 k, .int .i64 c] 74))
  by_cases h : 1 ≤ k ∧ k ≤ 1000
  · have hd : decide (1 ≤ k ∧ k ≤ 1000) = true := decide_eq_true h
    have HA := hid (show juW k c = decide (-1000 ≤ c ∧ c ≤ 1000) by unfold juW; simp [h.1, h.2])
    clear h
    go_enter Try.func68, Try.ntmps68
    go_wp2_with (first | (go_at_call 85; refine (isK_any _ _).mono ?_; rintro e w' ⟨rfl, rfl⟩) | (go_at_call 77; refine (isC_any _ _).mono ?_; rintro e w' ⟨rfl, rfl⟩))
    go_ret
    exact ⟨ret_bool (by rw [HA.out]; simp), HL.out⟩
  · have hd : decide (1 ≤ k ∧ k ≤ 1000) = false := decide_eq_false h
    have HA := hid (show juW k c = false from decide_eq_false (by omega))
    clear h
    go_enter Try.func68, Try.ntmps68
    go_wp2_with (first | (go_at_call 85; refine (isK_any _ _).mono ?_; rintro e w' ⟨rfl, rfl⟩) | (go_at_call 77; refine (isC_any _ _).mono ?_; rintro e w' ⟨rfl, rfl⟩))
    go_ret
    exact ⟨ret_bool HA.out.symm, HL.out⟩
theorem isWithin_as (k c : Int) (b : Bool) (w : World) (h : juW k c = b) : Calls Try.prog 68 #[.agg #[.int .i64 k, .int .i64 c]] w fun e w' => BoolRes w b e w' := by
  subst h; exact isWithin_any k c w
set_option maxRecDepth 20000 in
set_option maxHeartbeats 2000000 in
theorem prodSolved_any (k c x y : Int) (w : World) (hN : juN x y = true) :
    Calls Try.prog 198 #[.agg #[.int .i64 k, .int .i64 c], .agg #[.int .i64 x, .int .i64 y]] w fun e w' => BoolRes w (juW k c && juS x y k c) e w' := by
  have HL := hid ((Later.alloc w (.cells #[.int .i64 k, .int .i64 c] 74)).trans (Later.alloc _ (.cells #[.int .i64 x, .int .i64 y] 84)))
  have HB := hid ((JBox.new w k c 74).later (Later.alloc _ (.cells #[.int .i64 x, .int .i64 y] 84)))
  have HC : Hid (JBox ((w.alloc (.cells #[.int .i64 k, .int .i64 c] 74)).alloc (.cells #[.int .i64 x, .int .i64 y] 84)) (w.heap.size + 1) x y) := hid (by
    have := JBox.new (w.alloc (.cells #[.int .i64 k, .int .i64 c] 74)) x y 84
    simpa using this)
  cases hW : juW k c
  · have HW := hid hW
    clear hW hN
    go_enter Try.func198, Try.ntmps198
    go_upto_region 1 with fail
    generalize (w.alloc (.cells #[.int .i64 k, .int .i64 c] 74)).alloc (.cells #[.int .i64 x, .int .i64 y] 84) = w1 at HL HB HC ⊢
    obtain ⟨c0, c1, _, _⟩ := HB.out
    obtain ⟨d0, d1, _, _⟩ := HC.out
    go_wp2_with (go_at_call 68; refine (isWithin_as _ _ _ _ HW.out).mono ?_; rintro e w2 ⟨rfl, hL2⟩; have HL2 := hid (HL.out.trans hL2); clear hL2)
    go_ret
    exact ⟨rfl, HL2.out⟩
  · have HW := hid hW
    obtain ⟨k1, k2, e1, e2⟩ := juW_iff.1 hW
    obtain ⟨y1, y2, x2⟩ := juN_iff.1 hN
    obtain ⟨q1, q2⟩ := sqBd (x := x) ⟨by omega, x2⟩
    obtain ⟨q3, q4⟩ := sqBd (x := y) ⟨y1, by omega⟩
    obtain ⟨q5, q6⟩ := mulBd (x := k) (y := x) (a := 1000) (b := 1000000) ⟨by omega, k2⟩ ⟨by omega, x2⟩ (by omega)
    obtain ⟨q7, q8⟩ := mulBd (x := k * x) (y := y) (a := 1000000000) (b := 1000000) ⟨q5, by omega⟩ ⟨y1, by omega⟩ (by omega)
    clear hW hN
    go_enter Try.func198, Try.ntmps198
    go_upto_region 1 with fail
    generalize (w.alloc (.cells #[.int .i64 k, .int .i64 c] 74)).alloc (.cells #[.int .i64 x, .int .i64 y] 84) = w1 at HL HB HC ⊢
    obtain ⟨c0, c1, _, _⟩ := HB.out
    obtain ⟨d0, d1, _, _⟩ := HC.out
    go_wp2_with (go_at_call 68; refine (isWithin_as _ _ _ _ HW.out).mono ?_; rintro e w2 ⟨rfl, hL2⟩; replace c0 := hL2.cell c0; replace c1 := hL2.cell c1; replace d0 := hL2.cell d0; replace d1 := hL2.cell d1; have HL2 := hid (HL.out.trans hL2); clear hL2)
    go_ret
    exact ⟨ret_bool (by simp only [juS, Bool.true_and]; first | rfl | exact beq_eq_decide _ _), HL2.out⟩
set_option maxRecDepth 20000 in
set_option maxHeartbeats 2000000 in
theorem prodRoot_any (k c x y : Int) (w : World) (hk : 0 ≤ k ∧ k ≤ 1000000000000) (hx : 0 ≤ x ∧ x ≤ 1000000) (hy : 0 ≤ y ∧ y ≤ 1000000) :
    Calls Try.prog 199 #[.agg #[.int .i64 k, .int .i64 c], .int .i64 x, .int .i64 y] w fun e w' => e = .returned (.int .i64 (k * y - x)) ∧ Later w w' := by
  have HL := hid (Later.alloc w (.cells #[.int .i64 k, .int .i64 c] 74))
  obtain ⟨q1, q2⟩ := mulBd hk hy (by omega)
  obtain ⟨h1, h2⟩ := hx
  go_enter Try.func199, Try.ntmps199
  go_wp2_with fail
  go_ret
  exact ⟨rfl, HL.out⟩
def prodS (k c : Int) : Int → Int → Bool := fun x y => juW k c && juS x y k c
theorem prodEqS (k c : Int) : EqS 74 (.agg #[.int .i64 k, .int .i64 c]) 198 (prodS k c) :=
  ⟨fun n w => me_PS n w k c, Try.call198, fun x y w hN => prodSolved_any k c x y w hN⟩
theorem prodEq (k c : Int) (h : juW k c = true) : EqJ 74 (.agg #[.int .i64 k, .int .i64 c]) 198 199 (prodS k c) k := by
  obtain ⟨k1, k2, e1, e2⟩ := juW_iff.1 h
  exact ⟨prodEqS k c, fun n w => me_PO n w k c, Try.call199, fun x y w hx hy => prodRoot_any k c x y w ⟨by omega, by omega⟩ hx hy⟩
end Go.Proofs.Ytdahhcigphhfdaa
