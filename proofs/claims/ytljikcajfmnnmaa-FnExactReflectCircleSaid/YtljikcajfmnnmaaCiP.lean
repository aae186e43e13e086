/- Circles: TwiceProduct, DoTouch (the model, the program). -/
import Derived.Test.YtljikcajfmnnmaaCiS
namespace Go.Proofs.Ytljikcajfmnnmaa
open Go.RowKit

set_option maxRecDepth 20000 in
set_option maxHeartbeats 1000000 in
theorem twiceProductP_any (a b x y p q r s : Int) (w : World) :
    Calls Try.prog 14 #[.agg #[.int .i64 a, .int .i64 b, .int .i64 x, .int .i64 y], .agg #[.int .i64 p, .int .i64 q, .int .i64 r, .int .i64 s]] w fun e w' => NumAns w (twAns (a, b, x, y) (p, q, r, s)) e w' := by
  have HL := hid ((Later.alloc w (.cells #[.int .i64 a, .int .i64 b, .int .i64 x, .int .i64 y] 25)).trans (Later.alloc _ (.cells #[.int .i64 p, .int .i64 q, .int .i64 r, .int .i64 s] 25)))
  have HC := hid ((CBox.new w a b x y 25).later (Later.alloc _ (.cells #[.int .i64 p, .int .i64 q, .int .i64 r, .int .i64 s] 25)))
  have HD : Hid (CBox ((w.alloc (.cells #[.int .i64 a, .int .i64 b, .int .i64 x, .int .i64 y] 25)).alloc (.cells #[.int .i64 p, .int .i64 q, .int .i64 r, .int .i64 s] 25)) (w.heap.size + 1) p q r s) := hid (by have := CBox.new (w.alloc (.cells #[.int .i64 a, .int .i64 b, .int .i64 x, .int .i64 y] 25)) p q r s 25; simpa using this)
  cases h1 : ciB (a, b, x, y)
  · have HA := hid (twAns_no1 (d := (p, q, r, s)) h1)
    have H1 := hid h1
    clear h1
    go_enter Try.func14, Try.ntmps14
    go_wp2_with fail
    generalize (w.alloc (.cells #[.int .i64 a, .int .i64 b, .int .i64 x, .int .i64 y] 25)).alloc (.cells #[.int .i64 p, .int .i64 q, .int .i64 r, .int .i64 s] 25) = w1 at HL HC HD ⊢
    obtain ⟨d0, d1, d2, d3⟩ := HD.out
    obtain ⟨c0, c1, c2, c3⟩ := HC.out
    refine (isCircle_as a b x y false _ H1.out).mono ?_
    rintro e w2 ⟨rfl, hL2⟩
    have HL2 := hid (HL.out.trans hL2)
    clear hL2
    go_wp2_with fail
    go_ret2
    exact ⟨by rw [HA.out]; rfl, HL2.out⟩
  · cases h2 : ciB (p, q, r, s)
    · have HA := hid (twAns_no2 (c := (a, b, x, y)) h2)
      have H1 := hid h1
      have H2 := hid h2
      clear h1 h2
      go_enter Try.func14, Try.ntmps14
      go_wp2_with fail
      generalize (w.alloc (.cells #[.int .i64 a, .int .i64 b, .int .i64 x, .int .i64 y] 25)).alloc (.cells #[.int .i64 p, .int .i64 q, .int .i64 r, .int .i64 s] 25) = w1 at HL HC HD ⊢
      obtain ⟨d0, d1, d2, d3⟩ := HD.out
      obtain ⟨c0, c1, c2, c3⟩ := HC.out
      refine (isCircle_as a b x y true _ H1.out).mono ?_
      rintro e w2 ⟨rfl, hL2⟩
      have HL2 := hid (HL.out.trans hL2)
      obtain ⟨d0, d1, d2, d3⟩ := HD.out.later hL2
      obtain ⟨c0, c1, c2, c3⟩ := HC.out.later hL2
      have HC2 := hid (HC.out.later hL2)
      have HD2 := hid (HD.out.later hL2)
      clear hL2
      go_wp2_with fail
      refine (isCircle_as p q r s false _ H2.out).mono ?_
      rintro e w3 ⟨rfl, hL3⟩
      have HL3 := hid (HL2.out.trans hL3)
      clear hL3
      go_wp2_with fail
      go_ret2
      exact ⟨by rw [HA.out]; rfl, HL3.out⟩
    · have HA := hid (twAns_yes h1 h2)
      have H1 := hid h1
      have H2 := hid h2
      clear h1 h2
      go_enter Try.func14, Try.ntmps14
      go_wp2_with fail
      generalize (w.alloc (.cells #[.int .i64 a, .int .i64 b, .int .i64 x, .int .i64 y] 25)).alloc (.cells #[.int .i64 p, .int .i64 q, .int .i64 r, .int .i64 s] 25) = w1 at HL HC HD ⊢
      obtain ⟨d0, d1, d2, d3⟩ := HD.out
      obtain ⟨c0, c1, c2, c3⟩ := HC.out
      refine (isCircle_as a b x y true _ H1.out).mono ?_
      rintro e w2 ⟨rfl, hL2⟩
      have HL2 := hid (HL.out.trans hL2)
      obtain ⟨d0, d1, d2, d3⟩ := HD.out.later hL2
      obtain ⟨c0, c1, c2, c3⟩ := HC.out.later hL2
      have HC2 := hid (HC.out.later hL2)
      have HD2 := hid (HD.out.later hL2)
      clear hL2
      go_wp2_with fail
      refine (isCircle_as p q r s true _ H2.out).mono ?_
      rintro e w3 ⟨rfl, hL3⟩
      have HL3 := hid (HL2.out.trans hL3)
      obtain ⟨d0, d1, d2, d3⟩ := HD2.out.later hL3
      obtain ⟨c0, c1, c2, c3⟩ := HC2.out.later hL3
      clear hL3
      go_wp2_with fail
      refine (twiceP_any a b x y p q r s _ (ciB_in H1.out) (ciB_in H2.out)).mono ?_
      rintro e w4 ⟨rfl, hL4⟩
      have HL4 := hid (HL3.out.trans hL4)
      clear hL4
      go_wp2_with fail
      go_ret2
      exact ⟨by rw [HA.out]; rfl, HL4.out⟩
set_option maxRecDepth 20000 in
set_option maxHeartbeats 1000000 in
theorem twiceProductS_any (a b x y p q r s : Int) (w : World) :
    Calls Try.prog 13 #[.agg #[.int .i64 a, .int .i64 b, .int .i64 x, .int .i64 y], .agg #[.int .i64 p, .int .i64 q, .int .i64 r, .int .i64 s]] w fun e w' => NumAns w (twAns (a, b, x, y) (p, q, r, s)) e w' := by
  have HL := hid ((Later.alloc w (.cells #[.int .i64 a, .int .i64 b, .int .i64 x, .int .i64 y] 25)).trans (Later.alloc _ (.cells #[.int .i64 p, .int .i64 q, .int .i64 r, .int .i64 s] 25)))
  have HC := hid ((CBox.new w a b x y 25).later (Later.alloc _ (.cells #[.int .i64 p, .int .i64 q, .int .i64 r, .int .i64 s] 25)))
  have HD : Hid (CBox ((w.alloc (.cells #[.int .i64 a, .int .i64 b, .int .i64 x, .int .i64 y] 25)).alloc (.cells #[.int .i64 p, .int .i64 q, .int .i64 r, .int .i64 s] 25)) (w.heap.size + 1) p q r s) := hid (by have := CBox.new (w.alloc (.cells #[.int .i64 a, .int .i64 b, .int .i64 x, .int .i64 y] 25)) p q r s 25; simpa using this)
  cases h1 : ciB (a, b, x, y)
  · have HA := hid (twAns_no1 (d := (p, q, r, s)) h1)
    have H1 := hid h1
    clear h1
    go_enter Try.func13, Try.ntmps13
    go_wp2_with fail
    generalize (w.alloc (.cells #[.int .i64 a, .int .i64 b, .int .i64 x, .int .i64 y] 25)).alloc (.cells #[.int .i64 p, .int .i64 q, .int .i64 r, .int .i64 s] 25) = w1 at HL HC HD ⊢
    obtain ⟨d0, d1, d2, d3⟩ := HD.out
    obtain ⟨c0, c1, c2, c3⟩ := HC.out
    refine (ciGood_as a b x y false _ H1.out).mono ?_
    rintro e w2 ⟨rfl, hL2⟩
    have HL2 := hid (HL.out.trans hL2)
    clear hL2
    go_wp2_with fail
    go_ret2
    exact ⟨by rw [HA.out]; rfl, HL2.out⟩
  · cases h2 : ciB (p, q, r, s)
    · have HA := hid (twAns_no2 (c := (a, b, x, y)) h2)
      have H1 := hid h1
      have H2 := hid h2
      clear h1 h2
      go_enter Try.func13, Try.ntmps13
      go_wp2_with fail
      generalize (w.alloc (.cells #[.int .i64 a, .int .i64 b, .int .i64 x, .int .i64 y] 25)).alloc (.cells #[.int .i64 p, .int .i64 q, .int .i64 r, .int .i64 s] 25) = w1 at HL HC HD ⊢
      obtain ⟨d0, d1, d2, d3⟩ := HD.out
      obtain ⟨c0, c1, c2, c3⟩ := HC.out
      refine (ciGood_as a b x y true _ H1.out).mono ?_
      rintro e w2 ⟨rfl, hL2⟩
      have HL2 := hid (HL.out.trans hL2)
      obtain ⟨d0, d1, d2, d3⟩ := HD.out.later hL2
      obtain ⟨c0, c1, c2, c3⟩ := HC.out.later hL2
      have HC2 := hid (HC.out.later hL2)
      have HD2 := hid (HD.out.later hL2)
      clear hL2
      go_wp2_with fail
      refine (ciGood_as p q r s false _ H2.out).mono ?_
      rintro e w3 ⟨rfl, hL3⟩
      have HL3 := hid (HL2.out.trans hL3)
      clear hL3
      go_wp2_with fail
      go_ret2
      exact ⟨by rw [HA.out]; rfl, HL3.out⟩
    · have HA := hid (twAns_yes h1 h2)
      have H1 := hid h1
      have H2 := hid h2
      clear h1 h2
      go_enter Try.func13, Try.ntmps13
      go_wp2_with fail
      generalize (w.alloc (.cells #[.int .i64 a, .int .i64 b, .int .i64 x, .int .i64 y] 25)).alloc (.cells #[.int .i64 p, .int .i64 q, .int .i64 r, .int .i64 s] 25) = w1 at HL HC HD ⊢
      obtain ⟨d0, d1, d2, d3⟩ := HD.out
      obtain ⟨c0, c1, c2, c3⟩ := HC.out
      refine (ciGood_as a b x y true _ H1.out).mono ?_
      rintro e w2 ⟨rfl, hL2⟩
      have HL2 := hid (HL.out.trans hL2)
      obtain ⟨d0, d1, d2, d3⟩ := HD.out.later hL2
      obtain ⟨c0, c1, c2, c3⟩ := HC.out.later hL2
      have HC2 := hid (HC.out.later hL2)
      have HD2 := hid (HD.out.later hL2)
      clear hL2
      go_wp2_with fail
      refine (ciGood_as p q r s true _ H2.out).mono ?_
      rintro e w3 ⟨rfl, hL3⟩
      have HL3 := hid (HL2.out.trans hL3)
      obtain ⟨d0, d1, d2, d3⟩ := HD2.out.later hL3
      obtain ⟨c0, c1, c2, c3⟩ := HC2.out.later hL3
      clear hL3
      go_wp2_with fail
      refine (twiceS_any a b x y p q r s _ (ciB_in H1.out) (ciB_in H2.out)).mono ?_
      rintro e w4 ⟨rfl, hL4⟩
      have HL4 := hid (HL3.out.trans hL4)
      clear hL4
      go_wp2_with fail
      go_ret2
      exact ⟨by rw [HA.out]; rfl, HL4.out⟩
set_option maxRecDepth 20000 in
set_option maxHeartbeats 1000000 in
theorem doTouchS_any (a b x y p q r s : Int) (w : World) :
    Calls Try.prog 15 #[.agg #[.int .i64 a, .int .i64 b, .int .i64 x, .int .i64 y], .agg #[.int .i64 p, .int .i64 q, .int .i64 r, .int .i64 s]] w fun e w' => BoolAns w (touchAns (a, b, x, y) (p, q, r, s)) e w' := by
  have HL := hid ((Later.alloc w (.cells #[.int .i64 a, .int .i64 b, .int .i64 x, .int .i64 y] 25)).trans (Later.alloc _ (.cells #[.int .i64 p, .int .i64 q, .int .i64 r, .int .i64 s] 25)))
  have HC := hid ((CBox.new w a b x y 25).later (Later.alloc _ (.cells #[.int .i64 p, .int .i64 q, .int .i64 r, .int .i64 s] 25)))
  have HD : Hid (CBox ((w.alloc (.cells #[.int .i64 a, .int .i64 b, .int .i64 x, .int .i64 y] 25)).alloc (.cells #[.int .i64 p, .int .i64 q, .int .i64 r, .int .i64 s] 25)) (w.heap.size + 1) p q r s) := hid (by have := CBox.new (w.alloc (.cells #[.int .i64 a, .int .i64 b, .int .i64 x, .int .i64 y] 25)) p q r s 25; simpa using this)
  cases h1 : ciB (a, b, x, y)
  · have HA := hid (twAns_no1 (d := (p, q, r, s)) h1)
    have H1 := hid h1
    clear h1
    go_enter Try.func15, Try.ntmps15
    go_wp2_with fail
    generalize (w.alloc (.cells #[.int .i64 a, .int .i64 b, .int .i64 x, .int .i64 y] 25)).alloc (.cells #[.int .i64 p, .int .i64 q, .int .i64 r, .int .i64 s] 25) = w1 at HL HC HD ⊢
    obtain ⟨d0, d1, d2, d3⟩ := HD.out
    obtain ⟨c0, c1, c2, c3⟩ := HC.out
    refine (ciGood_as a b x y false _ H1.out).mono ?_
    rintro e w2 ⟨rfl, hL2⟩
    have HL2 := hid (HL.out.trans hL2)
    clear hL2
    go_wp2_with fail
    go_ret2
    exact ⟨by unfold touchAns; rw [HA.out]; rfl, HL2.out⟩
  · cases h2 : ciB (p, q, r, s)
    · have HA := hid (twAns_no2 (c := (a, b, x, y)) h2)
      have H1 := hid h1
      have H2 := hid h2
      clear h1 h2
      go_enter Try.func15, Try.ntmps15
      go_wp2_with fail
      generalize (w.alloc (.cells #[.int .i64 a, .int .i64 b, .int .i64 x, .int .i64 y] 25)).alloc (.cells #[.int .i64 p, .int .i64 q, .int .i64 r, .int .i64 s] 25) = w1 at HL HC HD ⊢
      obtain ⟨d0, d1, d2, d3⟩ := HD.out
      obtain ⟨c0, c1, c2, c3⟩ := HC.out
      refine (ciGood_as a b x y true _ H1.out).mono ?_
      rintro e w2 ⟨rfl, hL2⟩
      have HL2 := hid (HL.out.trans hL2)
      obtain ⟨d0, d1, d2, d3⟩ := HD.out.later hL2
      obtain ⟨c0, c1, c2, c3⟩ := HC.out.later hL2
      have HC2 := hid (HC.out.later hL2)
      have HD2 := hid (HD.out.later hL2)
      clear hL2
      go_wp2_with fail
      refine (ciGood_as p q r s false _ H2.out).mono ?_
      rintro e w3 ⟨rfl, hL3⟩
      have HL3 := hid (HL2.out.trans hL3)
      clear hL3
      go_wp2_with fail
      go_ret2
      exact ⟨by unfold touchAns; rw [HA.out]; rfl, HL3.out⟩
    · have HA := hid (twAns_yes h1 h2)
      have H1 := hid h1
      have H2 := hid h2
      clear h1 h2
      go_enter Try.func15, Try.ntmps15
      go_wp2_with fail
      generalize (w.alloc (.cells #[.int .i64 a, .int .i64 b, .int .i64 x, .int .i64 y] 25)).alloc (.cells #[.int .i64 p, .int .i64 q, .int .i64 r, .int .i64 s] 25) = w1 at HL HC HD ⊢
      obtain ⟨d0, d1, d2, d3⟩ := HD.out
      obtain ⟨c0, c1, c2, c3⟩ := HC.out
      refine (ciGood_as a b x y true _ H1.out).mono ?_
      rintro e w2 ⟨rfl, hL2⟩
      have HL2 := hid (HL.out.trans hL2)
      obtain ⟨d0, d1, d2, d3⟩ := HD.out.later hL2
      obtain ⟨c0, c1, c2, c3⟩ := HC.out.later hL2
      have HC2 := hid (HC.out.later hL2)
      have HD2 := hid (HD.out.later hL2)
      clear hL2
      go_wp2_with fail
      refine (ciGood_as p q r s true _ H2.out).mono ?_
      rintro e w3 ⟨rfl, hL3⟩
      have HL3 := hid (HL2.out.trans hL3)
      obtain ⟨d0, d1, d2, d3⟩ := HD2.out.later hL3
      obtain ⟨c0, c1, c2, c3⟩ := HC2.out.later hL3
      clear hL3
      go_wp2_with fail
      refine (twiceS_any a b x y p q r s _ (ciB_in H1.out) (ciB_in H2.out)).mono ?_
      rintro e w4 ⟨rfl, hL4⟩
      have HL4 := hid (HL3.out.trans hL4)
      clear hL4
      go_wp2_with fail
      go_ret2
      exact ⟨by unfold touchAns; rw [HA.out]; rfl, HL4.out⟩
set_option maxRecDepth 20000 in
set_option maxHeartbeats 1000000 in
theorem doTouchP_any (a b x y p q r s : Int) (w : World) :
    Calls Try.prog 16 #[.agg #[.int .i64 a, .int .i64 b, .int .i64 x, .int .i64 y], .agg #[.int .i64 p, .int .i64 q, .int .i64 r, .int .i64 s]] w fun e w' => BoolAns w (touchAns (a, b, x, y) (p, q, r, s)) e w' := by
  have HL := hid ((Later.alloc w (.cells #[.int .i64 a, .int .i64 b, .int .i64 x, .int .i64 y] 25)).trans (Later.alloc _ (.cells #[.int .i64 p, .int .i64 q, .int .i64 r, .int .i64 s] 25)))
  go_enter Try.func16, Try.ntmps16
  go_wp2_with fail
  generalize (w.alloc (.cells #[.int .i64 a, .int .i64 b, .int .i64 x, .int .i64 y] 25)).alloc (.cells #[.int .i64 p, .int .i64 q, .int .i64 r, .int .i64 s] 25) = w1 at HL ⊢
  refine (twiceProductP_any a b x y p q r s _).mono ?_
  rintro e w2 ⟨rfl, hL2⟩
  have HL2 := hid (HL.out.trans hL2)
  have HA := hid (show (touchAns (a, b, x, y) (p, q, r, s)).getD false = ((twAns (a, b, x, y) (p, q, r, s)).getD 0 == -2) ∧ (touchAns (a, b, x, y) (p, q, r, s)).isSome = (twAns (a, b, x, y) (p, q, r, s)).isSome by
    unfold touchAns
    cases twAns (a, b, x, y) (p, q, r, s)
    · exact ⟨by decide, rfl⟩
    · exact ⟨rfl, rfl⟩)
  clear hL2
  go_wp2_with fail
  go_ret2
  refine ⟨?_, HL2.out⟩
  rw [HA.out.1, HA.out.2]
  rfl
theorem specIsCircle_any (a b x y : Int) (w : World) :
    Calls Try.prog 10 #[.agg #[.int .i64 a, .int .i64 b, .int .i64 x, .int .i64 y]] w fun e w' => BoolRes w (ciB (a, b, x, y)) e w' := by
  have HL := hid (Later.alloc w (.cells #[.int .i64 a, .int .i64 b, .int .i64 x, .int .i64 y] 25))
  go_enter Try.func10, Try.ntmps10
  go_wp2_with fail
  generalize w.alloc (.cells #[.int .i64 a, .int .i64 b, .int .i64 x, .int .i64 y] 25) = w1 at HL ⊢
  refine (ciGood_any a b x y _).mono ?_
  rintro e w2 ⟨rfl, hL⟩
  have HL2 := hid (HL.out.trans hL)
  clear hL
  go_wp2_with fail
  go_ret
  exact ⟨rfl, HL2.out⟩
end Go.Proofs.Ytljikcajfmnnmaa
