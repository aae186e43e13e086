/- Lists of circles, as the laws compare them. -/
import Derived.Test.YtoaopmafokoaoaaCiTA
import Derived.Test.YtoaopmafokoaoaaAsG
import Derived.Laws.StructEq
namespace Go.Proofs.Ytoaopmafokoaoaa
open Go.RowKit

theorem eqCi (a b c d : Int) (w : World) : (Op.equalIn 10000 103 (.agg #[.int .i64 a, .int .i64 b, .int .i64 c, .int .i64 d]) (.agg #[.int .i64 a, .int .i64 b, .int .i64 c, .int .i64 d])).run Try.prog w = .ok true w := by
  have u3 := Try.underlying3
  rw [show (10000 : Nat) = 9999 + 1 from rfl, run_equalIn_struct w 9999 103 _ _ (by kernel_rfl) (by kernel_rfl)]
  have hfl : (Try.prog.fieldsOf 103).toList = [(Try.prog.fieldsOf 103)[0]!, (Try.prog.fieldsOf 103)[1]!, (Try.prog.fieldsOf 103)[2]!, (Try.prog.fieldsOf 103)[3]!] := by kernel_rfl
  have n0 : ((Try.prog.fieldsOf 103)[0]!).name ≠ "_" := by decide +kernel
  have n1 : ((Try.prog.fieldsOf 103)[1]!).name ≠ "_" := by decide +kernel
  have n2 : ((Try.prog.fieldsOf 103)[2]!).name ≠ "_" := by decide +kernel
  have n3 : ((Try.prog.fieldsOf 103)[3]!).name ≠ "_" := by decide +kernel
  have t0 : ((Try.prog.fieldsOf 103)[0]!).type = 3 := by kernel_rfl
  have t1 : ((Try.prog.fieldsOf 103)[1]!).type = 3 := by kernel_rfl
  have t2 : ((Try.prog.fieldsOf 103)[2]!).type = 3 := by kernel_rfl
  have t3 : ((Try.prog.fieldsOf 103)[3]!).type = 3 := by kernel_rfl
  have o0 : ((Try.prog.fieldsOf 103)[0]!).offset = 0 := by kernel_rfl
  have o1 : ((Try.prog.fieldsOf 103)[1]!).offset = 1 := by kernel_rfl
  have o2 : ((Try.prog.fieldsOf 103)[2]!).offset = 2 := by kernel_rfl
  have o3 : ((Try.prog.fieldsOf 103)[3]!).offset = 3 := by kernel_rfl
  have z3 := Try.sizeOf3
  have a3 := Try.isAgg3
  have hp0 : ∀ w, (part 3 #[.int .i64 a, .int .i64 b, .int .i64 c, .int .i64 d] 0).run Try.prog w = .ok (.int .i64 a) w := fun w => by go_simp
  have hp1 : ∀ w, (part 3 #[.int .i64 a, .int .i64 b, .int .i64 c, .int .i64 d] 1).run Try.prog w = .ok (.int .i64 b) w := fun w => by go_simp
  have hp2 : ∀ w, (part 3 #[.int .i64 a, .int .i64 b, .int .i64 c, .int .i64 d] 2).run Try.prog w = .ok (.int .i64 c) w := fun w => by go_simp
  have hp3 : ∀ w, (part 3 #[.int .i64 a, .int .i64 b, .int .i64 c, .int .i64 d] 3).run Try.prog w = .ok (.int .i64 d) w := fun w => by go_simp
  have he : ∀ w (g : Int), (Op.equalIn 9999 3 (.int .i64 g) (.int .i64 g)).run Try.prog w = .ok true w := fun w g => by
    rw [show (9999 : Nat) = 9998 + 1 from rfl, run_equalIn_int w 9998 _ _ _ _ _ u3]; simp
  rw [hfl, Op.eqFields, if_pos n0, t0, o0]
  simp only [Sem.run_bind, hp0, he, Result.andThen_ok, Bool.not_true, Bool.false_eq_true, if_false]
  rw [Op.eqFields, if_pos n1, t1, o1]
  simp only [Sem.run_bind, hp1, he, Result.andThen_ok, Bool.not_true, Bool.false_eq_true, if_false]
  rw [Op.eqFields, if_pos n2, t2, o2]
  simp only [Sem.run_bind, hp2, he, Result.andThen_ok, Bool.not_true, Bool.false_eq_true, if_false]
  rw [Op.eqFields, if_pos n3, t3, o3]
  simp only [Sem.run_bind, hp3, he, Result.andThen_ok, Bool.not_true, Bool.false_eq_true, if_false]
  simp [Op.eqFields, Sem.run_pure]
set_option maxRecDepth 20000 in
set_option maxHeartbeats 2000000 in
theorem dCircles_same (u v : Value) (L : List Ci4) (w : World) (hx : Cis w u L) (hy : Cis w v L) :
    Calls Try.prog 31 #[u, v] w fun e w' => e = .returned (.bool true) ∧ ∃ n, w' = w.drewN n := by
  obtain ⟨a, cap, rfl, hl, _, hc⟩ := hx
  obtain ⟨b, cap2, rfl, hl2, _, hc2⟩ := hy
  have HC := hid hc
  have HC2 := hid hc2
  obtain ⟨n, hn⟩ : ∃ n, L.length = n := ⟨_, rfl⟩
  have HN := hid hn
  rw [hn] at hl ⊢
  clear hc hc2 hn hl2
  go_enter Try.func31, Try.ntmps31
  go_wp2_with fail
  go_loopw [13] (fun i wr => ∃ k q : Nat, k ≤ n ∧ i = .int .i64 k ∧ wr = w.drewN q) (fun i _ => n - (intOf i).toNat)
  case atStart => exact ⟨0, 0, Nat.zero_le _, rfl, rfl⟩
  case round =>
    obtain ⟨k, q, hk, rfl, rfl⟩ := hrel
    by_cases hlt : k < n
    · have hi1 : (k : Int) < (n : Int) := by omega
      obtain ⟨g, rfl, d0, d1, d2, d3⟩ := HC.out k (by rw [HN.out]; exact hlt)
      obtain ⟨g2, rfl, e0, e1, e2, e3⟩ := HC2.out k (by rw [HN.out]; exact hlt)
      obtain ⟨c, hc⟩ : ∃ c, L.getD k c00 = c := ⟨_, rfl⟩
      rw [hc] at d0 d1 d2 d3 e0 e1 e2 e3
      obtain ⟨p, q', r, s⟩ := c
      simp only at d0 d1 d2 d3 e0 e1 e2 e3
      have hE := eqCi p q' r s
      clear hc
      go_wp2_with fail
      go_quiet (fail)
      go_wp2_with fail
      go_roundw
      case rel => exact ⟨k + 1, q + nq, hlt, by go_num, by simp⟩
      case measure => simp [intOf]; omega
    · go_wp2_with fail
      go_ret
      exact ⟨rfl, q, rfl⟩
end Go.Proofs.Ytoaopmafokoaoaa
