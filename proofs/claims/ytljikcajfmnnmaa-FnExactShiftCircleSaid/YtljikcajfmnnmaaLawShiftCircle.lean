/- The walk of the law FnExactShiftCircle, over whatever contracts the model's and the program's functions have. -/
import Derived.Test.YtljikcajfmnnmaaCiL
namespace Go.Proofs.Ytljikcajfmnnmaa
open Go.RowKit

set_option maxRecDepth 20000 in
set_option maxHeartbeats 2000000 in
theorem lawShiftCircle_gen (a b x y u v : Int) (o : Option Ci4)
    (hS : ∀ (w : World), Calls Try.prog 22 #[.agg #[.int .i64 a, .int .i64 b, .int .i64 x, .int .i64 y], .int .i64 u, .int .i64 v] w fun e w' => CiAns w o e w')
    (hI : ∀ (w : World), Calls Try.prog 23 #[.agg #[.int .i64 a, .int .i64 b, .int .i64 x, .int .i64 y], .int .i64 u, .int .i64 v] w fun e w' => CiAns w o e w')
    (w : World) :
    Calls Try.prog 8 #[.agg #[.int .i64 a, .int .i64 b, .int .i64 x, .int .i64 y], .int .i64 u, .int .i64 v] w fun e w' => e = .returned (.bool true) ∧ Later w w' := by
  have HS := hid hS
  have HI := hid hI
  clear hS hI
  obtain ⟨R, hR⟩ : ∃ R, o.getD c00 = R := ⟨_, rfl⟩
  obtain ⟨ra, rb, rx, ry⟩ := R
  unfold CiAns at HS HI
  rw [hR] at HS HI
  clear hR
  obtain ⟨ob, hob⟩ : ∃ ob, o.isSome = ob := ⟨_, rfl⟩
  rw [hob] at HS HI
  clear hob
  have hne : (ob != ob) = false := by simp
  have HL := hid (Later.alloc w (.cells #[.int .i64 a, .int .i64 b, .int .i64 x, .int .i64 y] 23))
  have HC := hid (CBox.new w a b x y 23)
  go_enter Try.func8, Try.ntmps8
  go_wp2_with fail
  generalize w.alloc (.cells #[.int .i64 a, .int .i64 b, .int .i64 x, .int .i64 y] 23) = w1 at HL HC ⊢
  obtain ⟨c0, c1, c2, c3⟩ := HC.out
  refine (toCircle_any a b x y _).mono ?_
  rintro e w2 ⟨rfl, hL2⟩
  have HL2 := hid (HL.out.trans hL2)
  have HC2 := hid (HC.out.later hL2)
  clear hL2 c0 c1 c2 c3
  obtain ⟨c0, c1, c2, c3⟩ := HC2.out
  go_wp2_with fail
  refine (HS.out _).mono ?_
  rintro e w3 ⟨rfl, hL3⟩
  have HL3 := hid (HL2.out.trans hL3)
  have HC3 := hid (HC2.out.later hL3)
  clear hL3 c0 c1 c2 c3
  obtain ⟨c0, c1, c2, c3⟩ := HC3.out
  have hA4 := Later.alloc w3 (.cells #[.int .i64 ra, .int .i64 rb, .int .i64 rx, .int .i64 ry] 25)
  have HB4 := hid (CBox.new w3 ra rb rx ry 25)
  have HL4 := hid (HL3.out.trans hA4)
  have HC4 := hid (HC3.out.later hA4)
  clear hA4 c0 c1 c2 c3
  obtain ⟨c0, c1, c2, c3⟩ := HC4.out
  obtain ⟨b00, b01, b02, b03⟩ := HB4.out
  go_wp2_with fail
  generalize (w3.alloc (.cells #[.int .i64 ra, .int .i64 rb, .int .i64 rx, .int .i64 ry] 25)) = w4 at HB4 HL4 HC4 c0 c1 c2 c3 b00 b01 b02 b03 ⊢
  refine (toCircle_any a b x y _).mono ?_
  rintro e w5 ⟨rfl, hL5⟩
  have HL5 := hid (HL4.out.trans hL5)
  have HC5 := hid (HC4.out.later hL5)
  have HB4_5 := hid (HB4.out.later hL5)
  clear hL5 c0 c1 c2 c3
  obtain ⟨c0, c1, c2, c3⟩ := HC5.out
  obtain ⟨b00, b01, b02, b03⟩ := HB4_5.out
  go_wp2_with fail
  refine (HI.out _).mono ?_
  rintro e w6 ⟨rfl, hL6⟩
  have HL6 := hid (HL5.out.trans hL6)
  have HC6 := hid (HC5.out.later hL6)
  have HB4_5_6 := hid (HB4_5.out.later hL6)
  clear hL6 c0 c1 c2 c3
  obtain ⟨c0, c1, c2, c3⟩ := HC6.out
  obtain ⟨b00, b01, b02, b03⟩ := HB4_5_6.out
  have hA7 := Later.alloc w6 (.cells #[.int .i64 ra, .int .i64 rb, .int .i64 rx, .int .i64 ry] 25)
  have HB7 := hid (CBox.new w6 ra rb rx ry 25)
  have HL7 := hid (HL6.out.trans hA7)
  have HC7 := hid (HC6.out.later hA7)
  have HB4_5_6_7 := hid (HB4_5_6.out.later hA7)
  clear hA7 c0 c1 c2 c3
  clear b00 b01 b02 b03
  obtain ⟨c0, c1, c2, c3⟩ := HC7.out
  obtain ⟨b00, b01, b02, b03⟩ := HB4_5_6_7.out
  obtain ⟨b10, b11, b12, b13⟩ := HB7.out
  go_wp2_with fail
  generalize (w6.alloc (.cells #[.int .i64 ra, .int .i64 rb, .int .i64 rx, .int .i64 ry] 25)) = w7 at HB7 HL7 HC7 HB4_5_6_7 c0 c1 c2 c3 b00 b01 b02 b03 b10 b11 b12 b13 ⊢
  refine (eqCircle_self ra rb rx ry _).mono ?_
  rintro e w8 ⟨rfl, hL8⟩
  have HL8 := hid (HL7.out.trans hL8)
  have HC8 := hid (HC7.out.later hL8)
  have HB4_5_6_7_8 := hid (HB4_5_6_7.out.later hL8)
  have HB7_8 := hid (HB7.out.later hL8)
  clear hL8 c0 c1 c2 c3
  obtain ⟨c0, c1, c2, c3⟩ := HC8.out
  obtain ⟨b00, b01, b02, b03⟩ := HB4_5_6_7_8.out
  obtain ⟨b10, b11, b12, b13⟩ := HB7_8.out
  go_wp2_with fail
  go_ret
  exact ⟨rfl, HL8.out⟩
end Go.Proofs.Ytljikcajfmnnmaa
