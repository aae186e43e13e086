/- Four curvatures: packings compared; the roots with an outer circle (the program). -/
import Derived.Test.YtoaopmafokoaoabQdY
import Derived.Test.YtoaopmafokoaoabQdX
namespace Go.Proofs.Ytoaopmafokoaoab
open Go.RowKit

theorem eqPack (a b c d g h : Int) (w : World) : (Op.equalIn 10000 103 (.agg #[.int .i64 a, .int .i64 b, .int .i64 c, .int .i64 d, .int .i64 g]) (.agg #[.int .i64 a, .int .i64 b, .int .i64 c, .int .i64 d, .int .i64 h])).run Try.prog w = .ok (g == h) w := by
  obtain ⟨i0, hi, hz0, hz1, hz2⟩ := info_parts Try.infoInt
  have hc : Try.prog.cellsOf 3 = 1 := by kernel_rfl
  have u3 := Try.underlying3
  have a3 := Try.isAgg3
  have z3 := Try.sizeOf3
  have uq := Try.underlying62
  rw [show (10000 : Nat) = 9999 + 1 from rfl, run_equalIn_struct w 9999 103 _ _ (by kernel_rfl) (by kernel_rfl)]
  have hfl : (Try.prog.fieldsOf 103).toList = [(Try.prog.fieldsOf 103)[0]!, (Try.prog.fieldsOf 103)[1]!] := by kernel_rfl
  have n0 : ((Try.prog.fieldsOf 103)[0]!).name ≠ "_" := by decide +kernel
  have n1 : ((Try.prog.fieldsOf 103)[1]!).name ≠ "_" := by decide +kernel
  have t0 : ((Try.prog.fieldsOf 103)[0]!).type = 62 := by kernel_rfl
  have t1 : ((Try.prog.fieldsOf 103)[1]!).type = 3 := by kernel_rfl
  have o0 : ((Try.prog.fieldsOf 103)[0]!).offset = 0 := by kernel_rfl
  have o1 : ((Try.prog.fieldsOf 103)[1]!).offset = 4 := by kernel_rfl
  have hq : ∀ w, (Op.equalIn 9999 62 (.agg #[.int .i64 a, .int .i64 b, .int .i64 c, .int .i64 d]) (.agg #[.int .i64 a, .int .i64 b, .int .i64 c, .int .i64 d])).run Try.prog w = .ok true w := by
    intro w
    rw [show (9999 : Nat) = 9998 + 1 from rfl, run_equalIn_array w 9998 _ _ Try.underlying62 hi, hc, show (9998 : Nat) = 9997 + 1 from rfl]
    simp only [List.range_succ, List.range_zero, List.nil_append, List.cons_append]
    simp only [Op.eqItems]
    go_simp
  have hp : ∀ w g, (part 62 #[.int .i64 a, .int .i64 b, .int .i64 c, .int .i64 d, .int .i64 g] 0).run Try.prog w = .ok (.agg #[.int .i64 a, .int .i64 b, .int .i64 c, .int .i64 d]) w := fun w g => by
    go_simp
  have hp1 : ∀ w g, (part 3 #[.int .i64 a, .int .i64 b, .int .i64 c, .int .i64 d, .int .i64 g] 4).run Try.prog w = .ok (.int .i64 g) w := fun w g => by
    go_simp
  have he : ∀ w, (Op.equalIn 9999 3 (.int .i64 g) (.int .i64 h)).run Try.prog w = .ok (g == h) w := fun w => run_equalIn_int w 9998 _ _ _ _ _ u3
  rw [hfl, Op.eqFields, if_pos n0, t0, o0]
  simp only [Sem.run_bind, hp, hq, Result.andThen_ok, Bool.not_true, Bool.false_eq_true, if_false]
  rw [Op.eqFields, if_pos n1, t1, o1]
  simp only [Sem.run_bind, hp1, he, Result.andThen_ok]
  cases g == h
  · simp [Sem.run_pure]
  · simp [Op.eqFields, Sem.run_pure]
end Go.Proofs.Ytoaopmafokoaoab
