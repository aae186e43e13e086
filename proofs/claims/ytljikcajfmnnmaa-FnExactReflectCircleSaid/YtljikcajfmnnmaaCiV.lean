/- Circles: movements and what they make of a circle (the program). -/
import Derived.Test.YtljikcajfmnnmaaCiM
namespace Go.Proofs.Ytljikcajfmnnmaa
open Go.RowKit

theorem as_TS (w : World) : (Instr.typeAssert (.iface 46 (.agg #[])) 56 50 true).run Try.prog w = .ok (.tuple #[.agg #[.int .i64 0, .int .i64 0], .bool false]) w := by kernel_rfl
theorem as_TR (w : World) : (Instr.typeAssert (.iface 46 (.agg #[])) 56 53 true).run Try.prog w = .ok (.tuple #[.agg #[.int .i64 0, .int .i64 0, .int .i64 0, .int .i64 0], .bool false]) w := by kernel_rfl
theorem as_FS (w : World) : (Instr.typeAssert (.iface 47 (.agg #[])) 56 50 true).run Try.prog w = .ok (.tuple #[.agg #[.int .i64 0, .int .i64 0], .bool false]) w := by kernel_rfl
theorem as_FR (w : World) : (Instr.typeAssert (.iface 47 (.agg #[])) 56 53 true).run Try.prog w = .ok (.tuple #[.agg #[.int .i64 0, .int .i64 0, .int .i64 0, .int .i64 0], .bool false]) w := by kernel_rfl
theorem as_SS (w : World) (u v : Int) : (Instr.typeAssert (.iface 50 (.agg #[.int .i64 u, .int .i64 v])) 56 50 true).run Try.prog w = .ok (.tuple #[.agg #[.int .i64 u, .int .i64 v], .bool true]) w := by kernel_rfl
theorem as_RS (w : World) (p q r s : Int) : (Instr.typeAssert (.iface 53 (.agg #[.int .i64 p, .int .i64 q, .int .i64 r, .int .i64 s])) 56 50 true).run Try.prog w = .ok (.tuple #[.agg #[.int .i64 0, .int .i64 0], .bool false]) w := by kernel_rfl
theorem as_RR (w : World) (p q r s : Int) : (Instr.typeAssert (.iface 53 (.agg #[.int .i64 p, .int .i64 q, .int .i64 r, .int .i64 s])) 56 53 true).run Try.prog w = .ok (.tuple #[.agg #[.int .i64 p, .int .i64 q, .int .i64 r, .int .i64 s], .bool true]) w := by kernel_rfl

set_option maxRecDepth 20000 in
set_option maxHeartbeats 2000000 in
theorem isMovementT_any (w : World) :
    Calls Try.prog 36 #[.iface 46 (.agg #[])] w fun e w' => BoolRes w true e w' := by
  have h1 := as_TS
  have h2 := as_TR
  go_enter Try.func36, Try.ntmps36
  go_wp2_with fail
  go_ret
  exact ⟨rfl, Later.refl _⟩
set_option maxRecDepth 20000 in
set_option maxHeartbeats 2000000 in
theorem isMovementF_any (w : World) :
    Calls Try.prog 36 #[.iface 47 (.agg #[])] w fun e w' => BoolRes w true e w' := by
  have h1 := as_FS
  have h2 := as_FR
  go_enter Try.func36, Try.ntmps36
  go_wp2_with fail
  go_ret
  exact ⟨rfl, Later.refl _⟩
theorem OwnInts.lit2 (w : World) (a b : Int) : OwnInts w.heap.size (w.alloc (.cells #[.int .i64 a, .int .i64 b] 3)).heap.size (w.alloc (.cells #[.int .i64 a, .int .i64 b] 3)) (.slice (some ⟨w.heap.size, 0, none⟩) 2 2) [a, b] := by
  have h := World.ownsRow_lit (e := 3) (size := 1) w #[.int .i64 a, .int .i64 b] 2 (Nat.le_refl _) (by unfold maxLen; omega) (by simp)
  refine ⟨h, fun k hk => ?_⟩
  simp [Value.ownBlock] at hk ⊢
  omega
set_option maxRecDepth 20000 in
set_option maxHeartbeats 2000000 in
theorem isMovementS_any (u v : Int) (w : World) :
    Calls Try.prog 36 #[.iface 50 (.agg #[.int .i64 u, .int .i64 v])] w fun e w' => BoolRes w (within (-1000) 1000 u && within (-1000) 1000 v) e w' := by
  have h1 := fun w => as_SS w u v
  have HL := hid ((Later.alloc w (.cells #[.int .i64 u, .int .i64 v] 50)).trans (Later.alloc _ (.cells #[.int .i64 u, .int .i64 v] 3)))
  have HR := hid (show Ints ((w.alloc (.cells #[.int .i64 u, .int .i64 v] 50)).alloc (.cells #[.int .i64 u, .int .i64 v] 3)) (.slice (some ⟨w.heap.size + 1, 0, none⟩) 2 2) [u, v] from by simpa using (OwnInts.lit2 (w.alloc (.cells #[.int .i64 u, .int .i64 v] 50)) u v).ints)
  go_enter Try.func36, Try.ntmps36
  go_wp2_with fail
  generalize (w.alloc (.cells #[.int .i64 u, .int .i64 v] 50)).alloc (.cells #[.int .i64 u, .int .i64 v] 3) = w2 at HL HR ⊢
  refine (areWithin_any _ [u, v] 1000 _ (by omega) HR.out).mono ?_
  rintro e w3 ⟨rfl, rfl⟩
  go_wp2_with fail
  go_ret
  exact ⟨ret_bool (by simp), HL.out⟩
set_option maxRecDepth 20000 in
set_option maxHeartbeats 2000000 in
theorem isMovementR_any (p q r s : Int) (w : World) :
    Calls Try.prog 36 #[.iface 53 (.agg #[.int .i64 p, .int .i64 q, .int .i64 r, .int .i64 s])] w fun e w' => BoolRes w (ciB (p, q, r, s)) e w' := by
  have h1 := fun w => as_RS w p q r s
  have h2 := fun w => as_RR w p q r s
  have HL := hid (Later.alloc w (.cells #[.int .i64 p, .int .i64 q, .int .i64 r, .int .i64 s] 53))
  go_enter Try.func36, Try.ntmps36
  go_wp2_with fail
  generalize w.alloc (.cells #[.int .i64 p, .int .i64 q, .int .i64 r, .int .i64 s] 53) = w2 at HL ⊢
  refine (isCircle_any p q r s _).mono ?_
  rintro e w3 ⟨rfl, hL⟩
  have HL3 := hid (HL.out.trans hL)
  clear hL
  go_wp2_with fail
  go_ret
  exact ⟨rfl, HL3.out⟩

/-! ### movedBy -/
set_option maxRecDepth 20000 in
set_option maxHeartbeats 2000000 in
theorem movedBy_gen (T : TypeId) (m : Value) (K : FuncId) (B : Bool) (a b x y ra rb rx ry : Int) (o : Option Ci4) (w : World)
    (hm : ∀ w0, Calls Try.prog 36 #[.iface T m] w0 fun e w' => BoolRes w0 B e w')
    (hi : B = true → ciB (a, b, x, y) = true → ∀ w0, Calls Try.prog K #[m, .agg #[.int .i64 a, .int .i64 b, .int .i64 x, .int .i64 y]] w0 fun e w' => CiRes w0 (ra, rb, rx, ry) e w')
    (hk : ∀ w0, (method 179 T m "loop.example/g01122/impl.imageOf").run Try.prog w0 = .ok (K, m) w0) (ek : ∀ args w0, (callFunc K args).run Try.prog w0 = .ok (.enter K args) w0)
    (h0 : ciB (a, b, x, y) = false → o = none) (h1 : B = false → o = none) (h2 : ciB (ra, rb, rx, ry) = false → o = none) (h3 : ciB (a, b, x, y) = true → B = true → ciB (ra, rb, rx, ry) = true → o = some (ra, rb, rx, ry)) :
    Calls Try.prog 31 #[.iface T m, .agg #[.int .i64 a, .int .i64 b, .int .i64 x, .int .i64 y]] w fun e w' => CiAns w o e w' := by
  have hL0 := (Later.alloc w (.cells #[.int .i64 a, .int .i64 b, .int .i64 x, .int .i64 y] 25)).trans (Later.alloc _ (.cells #[.int .i64 0, .int .i64 0, .int .i64 0, .int .i64 0] 25))
  have HL := hid hL0
  have HC := hid ((CBox.new w a b x y 25).later (Later.alloc _ (.cells #[.int .i64 0, .int .i64 0, .int .i64 0, .int .i64 0] 25)))
  have HD : Hid (CBox ((w.alloc (.cells #[.int .i64 a, .int .i64 b, .int .i64 x, .int .i64 y] 25)).alloc (.cells #[.int .i64 0, .int .i64 0, .int .i64 0, .int .i64 0] 25)) (w.heap.size + 1) 0 0 0 0) := hid (by have := CBox.new (w.alloc (.cells #[.int .i64 a, .int .i64 b, .int .i64 x, .int .i64 y] 25)) 0 0 0 0 25; simpa using this)
  have HF : Hid (∀ j, ((w.alloc (.cells #[.int .i64 a, .int .i64 b, .int .i64 x, .int .i64 y] 25)).alloc (.cells #[.int .i64 0, .int .i64 0, .int .i64 0, .int .i64 0] 25)).frozen? ⟨w.heap.size + 1, j, none⟩ = false) := hid (fun j => by simp [go_sem])
  have HM := hid hm
  clear hL0 hm
  cases hb : ciB (a, b, x, y)
  · have HB := hid hb
    have HA := hid (h0 hb)
    clear hb hi h0 h1 h2 h3 hk
    go_enter Try.func31, Try.ntmps31
    go_wp2_with fail
    generalize (w.alloc (.cells #[.int .i64 a, .int .i64 b, .int .i64 x, .int .i64 y] 25)).alloc (.cells #[.int .i64 0, .int .i64 0, .int .i64 0, .int .i64 0] 25) = w1 at HL HC HD HF ⊢
    obtain ⟨c0, c1, c2, c3⟩ := HC.out
    refine (isCircle_as a b x y false _ HB.out).mono ?_
    rintro e w2 ⟨rfl, hL2⟩
    have HL2 := hid (HL.out.trans hL2)
    have HE := hid (HD.out.later hL2)
    obtain ⟨d0, d1, d2, d3⟩ := HD.out.later hL2
    have f0 := hL2.frozen HD.out.1 (HF.out 0)
    have f1 := hL2.frozen HD.out.2.1 (HF.out 1)
    have f2 := hL2.frozen HD.out.2.2.1 (HF.out 2)
    have f3 := hL2.frozen HD.out.2.2.2 (HF.out 3)
    clear hL2
    go_wp2_with fail
    have HLz : Hid (Later w ((((w2.setCell ⟨w.heap.size + 1, 0, none⟩ (.int .i64 0)).setCell ⟨w.heap.size + 1, 1, none⟩ (.int .i64 0)).setCell ⟨w.heap.size + 1, 2, none⟩ (.int .i64 0)).setCell ⟨w.heap.size + 1, 3, none⟩ (.int .i64 0))) := hid (set4_later HL2.out (by omega) 0 _ _ _ _)
    have HCz := hid ((HE.out).set 0 0 0 0)
    generalize ((((w2.setCell ⟨w.heap.size + 1, 0, none⟩ (.int .i64 0)).setCell ⟨w.heap.size + 1, 1, none⟩ (.int .i64 0)).setCell ⟨w.heap.size + 1, 2, none⟩ (.int .i64 0)).setCell ⟨w.heap.size + 1, 3, none⟩ (.int .i64 0)) = wz at HLz HCz ⊢
    obtain ⟨g0, g1, g2, g3⟩ := HCz.out
    refine bodyPost_ret (v := .tuple #[.agg #[.int .i64 0, .int .i64 0, .int .i64 0, .int .i64 0], .bool false]) ?_ rfl ⟨by rw [HA.out]; rfl, HLz.out⟩
    rw [results_cell_tmp rfl]
    go_simp
  · have HB := hid hb
    cases hB : B
    · have HA := hid (h1 hB)
      rw [hB] at HM
      clear hb hi h0 h1 h2 h3 hk hB
      go_enter Try.func31, Try.ntmps31
      go_wp2_with fail
      generalize (w.alloc (.cells #[.int .i64 a, .int .i64 b, .int .i64 x, .int .i64 y] 25)).alloc (.cells #[.int .i64 0, .int .i64 0, .int .i64 0, .int .i64 0] 25) = w1 at HL HC HD HF ⊢
      obtain ⟨c0, c1, c2, c3⟩ := HC.out
      refine (isCircle_as a b x y true _ HB.out).mono ?_
      rintro e w2 ⟨rfl, hL2⟩
      have HL2 := hid (HL.out.trans hL2)
      have HC2 := hid (HC.out.later hL2)
      clear c0 c1 c2 c3
      go_wp2_with fail
      refine (HM.out _).mono ?_
      rintro e w3 ⟨rfl, hL3⟩
      have hL13 := hL2.trans hL3
      have HL3 := hid (HL2.out.trans hL3)
      have HE := hid (HD.out.later hL13)
      obtain ⟨c0, c1, c2, c3⟩ := HC2.out.later hL3
      obtain ⟨d0, d1, d2, d3⟩ := HD.out.later hL13
      have f0 := hL13.frozen HD.out.1 (HF.out 0)
      have f1 := hL13.frozen HD.out.2.1 (HF.out 1)
      have f2 := hL13.frozen HD.out.2.2.1 (HF.out 2)
      have f3 := hL13.frozen HD.out.2.2.2 (HF.out 3)
      clear hL2 hL3 hL13
      go_wp2_with fail
      have HLz : Hid (Later w ((((w3.setCell ⟨w.heap.size + 1, 0, none⟩ (.int .i64 0)).setCell ⟨w.heap.size + 1, 1, none⟩ (.int .i64 0)).setCell ⟨w.heap.size + 1, 2, none⟩ (.int .i64 0)).setCell ⟨w.heap.size + 1, 3, none⟩ (.int .i64 0))) := hid (set4_later HL3.out (by omega) 0 _ _ _ _)
      have HCz := hid ((HE.out).set 0 0 0 0)
      generalize ((((w3.setCell ⟨w.heap.size + 1, 0, none⟩ (.int .i64 0)).setCell ⟨w.heap.size + 1, 1, none⟩ (.int .i64 0)).setCell ⟨w.heap.size + 1, 2, none⟩ (.int .i64 0)).setCell ⟨w.heap.size + 1, 3, none⟩ (.int .i64 0)) = wz at HLz HCz ⊢
      obtain ⟨g0, g1, g2, g3⟩ := HCz.out
      refine bodyPost_ret (v := .tuple #[.agg #[.int .i64 0, .int .i64 0, .int .i64 0, .int .i64 0], .bool false]) ?_ rfl ⟨by rw [HA.out]; rfl, HLz.out⟩
      rw [results_cell_tmp rfl]
      go_simp
    · have HI := hid (hi hB hb)
      rw [hB] at HM
      cases hR : ciB (ra, rb, rx, ry)
      · have HR := hid hR
        have HA := hid (h2 hR)
        clear hi hb hB hR h0 h1 h2 h3
        go_enter Try.func31, Try.ntmps31
        go_wp2_with fail
        generalize (w.alloc (.cells #[.int .i64 a, .int .i64 b, .int .i64 x, .int .i64 y] 25)).alloc (.cells #[.int .i64 0, .int .i64 0, .int .i64 0, .int .i64 0] 25) = w1 at HL HC HD HF ⊢
        obtain ⟨c0, c1, c2, c3⟩ := HC.out
        refine (isCircle_as a b x y true _ HB.out).mono ?_
        rintro e w2 ⟨rfl, hL2⟩
        have HL2 := hid (HL.out.trans hL2)
        have HC2 := hid (HC.out.later hL2)
        clear c0 c1 c2 c3
        go_wp2_with fail
        refine (HM.out _).mono ?_
        rintro e w3 ⟨rfl, hL3⟩
        have hL13 := hL2.trans hL3
        have HL3 := hid (HL2.out.trans hL3)
        have HE := hid (HD.out.later hL13)
        obtain ⟨c0, c1, c2, c3⟩ := HC2.out.later hL3
        obtain ⟨d0, d1, d2, d3⟩ := HD.out.later hL13
        have f0 := hL13.frozen HD.out.1 (HF.out 0)
        have f1 := hL13.frozen HD.out.2.1 (HF.out 1)
        have f2 := hL13.frozen HD.out.2.2.1 (HF.out 2)
        have f3 := hL13.frozen HD.out.2.2.2 (HF.out 3)
        clear hL2 hL3 hL13
        have HG := hid (And.intro f0 (And.intro f1 (And.intro f2 f3)))
        clear d0 d1 d2 d3 f0 f1 f2 f3
        go_wp2_with fail
        refine (HI.out _).mono ?_
        rintro e w4 ⟨rfl, hL4⟩
        have HL4 := hid (HL3.out.trans hL4)
        have HE4 := hid (HE.out.later hL4)
        have HG4 := hid (And.intro (hL4.frozen HE.out.1 HG.out.1) (And.intro (hL4.frozen HE.out.2.1 HG.out.2.1) (And.intro (hL4.frozen HE.out.2.2.1 HG.out.2.2.1) (hL4.frozen HE.out.2.2.2 HG.out.2.2.2))))
        clear hL4 c0 c1 c2 c3
        go_wp2_with fail
        have hA5 := Later.alloc w4 (.cells #[.int .i64 ra, .int .i64 rb, .int .i64 rx, .int .i64 ry] 25)
        have HC5 := hid (CBox.new w4 ra rb rx ry 25)
        have HL5 := hid (HL4.out.trans hA5)
        have HE5 := hid (HE4.out.later hA5)
        have HG5 := hid (And.intro (hA5.frozen HE4.out.1 HG4.out.1) (And.intro (hA5.frozen HE4.out.2.1 HG4.out.2.1) (And.intro (hA5.frozen HE4.out.2.2.1 HG4.out.2.2.1) (hA5.frozen HE4.out.2.2.2 HG4.out.2.2.2))))
        clear hA5
        generalize w4.alloc (.cells #[.int .i64 ra, .int .i64 rb, .int .i64 rx, .int .i64 ry] 25) = w5 at HC5 HL5 HE5 HG5 ⊢
        obtain ⟨b0, b1, b2, b3⟩ := HC5.out
        refine (isCircle_as ra rb rx ry false _ HR.out).mono ?_
        rintro e w6 ⟨rfl, hL6⟩
        have HL6 := hid (HL5.out.trans hL6)
        have HE6 := hid (HE5.out.later hL6)
        obtain ⟨d0, d1, d2, d3⟩ := HE6.out
        obtain ⟨b0, b1, b2, b3⟩ := HC5.out.later hL6
        have f0 := hL6.frozen HE5.out.1 HG5.out.1
        have f1 := hL6.frozen HE5.out.2.1 HG5.out.2.1
        have f2 := hL6.frozen HE5.out.2.2.1 HG5.out.2.2.1
        have f3 := hL6.frozen HE5.out.2.2.2 HG5.out.2.2.2
        clear hL6
        go_wp2_with fail
        have HLz : Hid (Later w ((((w6.setCell ⟨w.heap.size + 1, 0, none⟩ (.int .i64 0)).setCell ⟨w.heap.size + 1, 1, none⟩ (.int .i64 0)).setCell ⟨w.heap.size + 1, 2, none⟩ (.int .i64 0)).setCell ⟨w.heap.size + 1, 3, none⟩ (.int .i64 0))) := hid (set4_later HL6.out (by omega) 0 _ _ _ _)
        have HCz := hid ((HE6.out).set 0 0 0 0)
        generalize ((((w6.setCell ⟨w.heap.size + 1, 0, none⟩ (.int .i64 0)).setCell ⟨w.heap.size + 1, 1, none⟩ (.int .i64 0)).setCell ⟨w.heap.size + 1, 2, none⟩ (.int .i64 0)).setCell ⟨w.heap.size + 1, 3, none⟩ (.int .i64 0)) = wz at HLz HCz ⊢
        obtain ⟨g0, g1, g2, g3⟩ := HCz.out
        refine bodyPost_ret (v := .tuple #[.agg #[.int .i64 0, .int .i64 0, .int .i64 0, .int .i64 0], .bool false]) ?_ rfl ⟨by rw [HA.out]; rfl, HLz.out⟩
        rw [results_cell_tmp rfl]
        go_simp
      · have HR := hid hR
        have HA := hid (h3 hb hB hR)
        clear hi hb hB hR h0 h1 h2 h3
        go_enter Try.func31, Try.ntmps31
        go_wp2_with fail
        generalize (w.alloc (.cells #[.int .i64 a, .int .i64 b, .int .i64 x, .int .i64 y] 25)).alloc (.cells #[.int .i64 0, .int .i64 0, .int .i64 0, .int .i64 0] 25) = w1 at HL HC HD HF ⊢
        obtain ⟨c0, c1, c2, c3⟩ := HC.out
        refine (isCircle_as a b x y true _ HB.out).mono ?_
        rintro e w2 ⟨rfl, hL2⟩
        have HL2 := hid (HL.out.trans hL2)
        have HC2 := hid (HC.out.later hL2)
        clear c0 c1 c2 c3
        go_wp2_with fail
        refine (HM.out _).mono ?_
        rintro e w3 ⟨rfl, hL3⟩
        have hL13 := hL2.trans hL3
        have HL3 := hid (HL2.out.trans hL3)
        have HE := hid (HD.out.later hL13)
        obtain ⟨c0, c1, c2, c3⟩ := HC2.out.later hL3
        obtain ⟨d0, d1, d2, d3⟩ := HD.out.later hL13
        have f0 := hL13.frozen HD.out.1 (HF.out 0)
        have f1 := hL13.frozen HD.out.2.1 (HF.out 1)
        have f2 := hL13.frozen HD.out.2.2.1 (HF.out 2)
        have f3 := hL13.frozen HD.out.2.2.2 (HF.out 3)
        clear hL2 hL3 hL13
        have HG := hid (And.intro f0 (And.intro f1 (And.intro f2 f3)))
        clear d0 d1 d2 d3 f0 f1 f2 f3
        go_wp2_with fail
        refine (HI.out _).mono ?_
        rintro e w4 ⟨rfl, hL4⟩
        have HL4 := hid (HL3.out.trans hL4)
        have HE4 := hid (HE.out.later hL4)
        have HG4 := hid (And.intro (hL4.frozen HE.out.1 HG.out.1) (And.intro (hL4.frozen HE.out.2.1 HG.out.2.1) (And.intro (hL4.frozen HE.out.2.2.1 HG.out.2.2.1) (hL4.frozen HE.out.2.2.2 HG.out.2.2.2))))
        clear hL4 c0 c1 c2 c3
        go_wp2_with fail
        have hA5 := Later.alloc w4 (.cells #[.int .i64 ra, .int .i64 rb, .int .i64 rx, .int .i64 ry] 25)
        have HC5 := hid (CBox.new w4 ra rb rx ry 25)
        have HL5 := hid (HL4.out.trans hA5)
        have HE5 := hid (HE4.out.later hA5)
        have HG5 := hid (And.intro (hA5.frozen HE4.out.1 HG4.out.1) (And.intro (hA5.frozen HE4.out.2.1 HG4.out.2.1) (And.intro (hA5.frozen HE4.out.2.2.1 HG4.out.2.2.1) (hA5.frozen HE4.out.2.2.2 HG4.out.2.2.2))))
        clear hA5
        generalize w4.alloc (.cells #[.int .i64 ra, .int .i64 rb, .int .i64 rx, .int .i64 ry] 25) = w5 at HC5 HL5 HE5 HG5 ⊢
        obtain ⟨b0, b1, b2, b3⟩ := HC5.out
        refine (isCircle_as ra rb rx ry true _ HR.out).mono ?_
        rintro e w6 ⟨rfl, hL6⟩
        have HL6 := hid (HL5.out.trans hL6)
        have HE6 := hid (HE5.out.later hL6)
        obtain ⟨d0, d1, d2, d3⟩ := HE6.out
        obtain ⟨b0, b1, b2, b3⟩ := HC5.out.later hL6
        have f0 := hL6.frozen HE5.out.1 HG5.out.1
        have f1 := hL6.frozen HE5.out.2.1 HG5.out.2.1
        have f2 := hL6.frozen HE5.out.2.2.1 HG5.out.2.2.1
        have f3 := hL6.frozen HE5.out.2.2.2 HG5.out.2.2.2
        clear hL6
        go_wp2_with fail
        have HLz : Hid (Later w ((((w6.setCell ⟨w.heap.size + 1, 0, none⟩ (.int .i64 ra)).setCell ⟨w.heap.size + 1, 1, none⟩ (.int .i64 rb)).setCell ⟨w.heap.size + 1, 2, none⟩ (.int .i64 rx)).setCell ⟨w.heap.size + 1, 3, none⟩ (.int .i64 ry))) := hid (set4_later HL6.out (by omega) 0 _ _ _ _)
        have HCz := hid ((HE6.out).set ra rb rx ry)
        generalize ((((w6.setCell ⟨w.heap.size + 1, 0, none⟩ (.int .i64 ra)).setCell ⟨w.heap.size + 1, 1, none⟩ (.int .i64 rb)).setCell ⟨w.heap.size + 1, 2, none⟩ (.int .i64 rx)).setCell ⟨w.heap.size + 1, 3, none⟩ (.int .i64 ry)) = wz at HLz HCz ⊢
        obtain ⟨g0, g1, g2, g3⟩ := HCz.out
        refine bodyPost_ret (v := .tuple #[.agg #[.int .i64 ra, .int .i64 rb, .int .i64 rx, .int .i64 ry], .bool true]) ?_ rfl ⟨by rw [HA.out]; rfl, HLz.out⟩
        rw [results_cell_tmp rfl]
        go_simp
end Go.Proofs.Ytljikcajfmnnmaa
