/- Circles: ReflectCircle (the model). -/
import Derived.Test.YtljikcajfmnnmaaCiX
import Derived.Test.YtljikcajfmnnmaaRoot
namespace Go.Proofs.Ytljikcajfmnnmaa
open Go.RowKit

def absI (z : Int) : Int := maxI z (-z)
theorem absI_nn (z : Int) : 0 ≤ absI z := by unfold absI maxI; split <;> omega
theorem absI_cases (z : Int) : absI z = z ∨ absI z = -z := by unfold absI maxI; split <;> omega
def Wid (a : Int) : Prop := -10000000000000 ≤ a ∧ a ≤ 10000000000000
theorem absC_any (a : Int) (w : World) (ha : Wid a) : Calls Try.prog 37 #[.int .i64 a] w fun e w' => e = .returned (.int .i64 (maxI a (-a))) ∧ w = w' := by
  obtain ⟨h1, h2⟩ := ha
  go_enter Try.func37, Try.ntmps37
  go_wp2_with fail
  refine (l1Most_any _ _ _).mono ?_
  rintro e w' ⟨rfl, rfl⟩
  go_wp2_with fail
  go_ret
  exact ⟨rfl, rfl⟩
def fitB (T p : Int) : Bool := (T == 0) || decide (absI p ≤ (10000000 : Int).tdiv (absI T))
theorem fit_iff {T p : Int} (hT : T ≠ 0) : absI p ≤ (10000000 : Int).tdiv (absI T) ↔ absI p * absI T ≤ 10000000 := by
  have h0 := absI_nn T
  have h1 : 0 < absI T := by rcases absI_cases T with h | h <;> omega
  rw [Int.tdiv_eq_ediv_of_nonneg (by omega)]
  exact Int.le_ediv_iff_mul_le h1
theorem absI_mul (T p : Int) : absI p * absI T = T * p ∨ absI p * absI T = -(T * p) := by
  rcases absI_cases T with h | h <;> rcases absI_cases p with k | k <;> rw [h, k]
  · left; exact Int.mul_comm _ _
  · right; grind
  · right; grind
  · left; grind
theorem fit_true {T p : Int} (h : fitB T p = true) : -10000000 ≤ T * p ∧ T * p ≤ 10000000 := by
  by_cases hT : T = 0
  · subst hT; omega
  · unfold fitB at h
    rw [Bool.or_eq_true] at h
    rcases h with h | h
    · simp at h; exact absurd h hT
    · have h2 := (fit_iff hT).1 (of_decide_eq_true h)
      have h3 : 0 ≤ absI p * absI T := Int.mul_nonneg (absI_nn p) (absI_nn T)
      rcases absI_mul T p with e | e <;> omega
theorem fit_false {T p : Int} (h : fitB T p = false) : T * p < -10000000 ∨ 10000000 < T * p := by
  unfold fitB at h
  rw [Bool.or_eq_false_iff] at h
  have hT : T ≠ 0 := by simpa using h.1
  have h2 : ¬ absI p * absI T ≤ 10000000 := fun hh => (of_decide_eq_false h.2) ((fit_iff hT).2 hh)
  rcases absI_mul T p with e | e <;> omega
theorem absI_bd {z B : Int} (h : -B ≤ z ∧ z ≤ B) : absI z ≤ B := by rcases absI_cases z with e | e <;> omega

set_option maxRecDepth 20000 in
set_option maxHeartbeats 2000000 in
theorem ciFits_any (T p : Int) (w : World) (hT : Wid T) (hp : Wid p) :
    Calls Try.prog 34 #[.int .i64 T, .int .i64 p] w fun e w' => e = .returned (.bool (fitB T p)) ∧ w = w' := by
  by_cases h0 : T = 0
  · subst h0
    go_enter Try.func34, Try.ntmps34
    go_wp2_with fail
    go_ret
    exact ⟨ret_bool (by simp [fitB]), rfl⟩
  · have hne : (T == 0) = false := by simpa using h0
    have ha := absI_nn T
    have hA1 : 0 < absI T := by rcases absI_cases T with h | h <;> omega
    have HT := hid (show ∀ w0, Calls Try.prog 37 #[.int .i64 T] w0 fun e w' => e = .returned (.int .i64 (absI T)) ∧ w0 = w' from fun w0 => absC_any T w0 hT)
    have HP := hid (show ∀ w0, Calls Try.prog 37 #[.int .i64 p] w0 fun e w' => e = .returned (.int .i64 (absI p)) ∧ w0 = w' from fun w0 => absC_any p w0 hp)
    have HF := hid (show fitB T p = decide (absI p ≤ (10000000 : Int).tdiv (absI T)) by unfold fitB; rw [hne]; rfl)
    obtain ⟨A, hA⟩ : ∃ A, absI T = A := ⟨_, rfl⟩
    obtain ⟨B, hB⟩ : ∃ B, absI p = B := ⟨_, rfl⟩
    rw [hA] at HT HF hA1
    rw [hB] at HP HF
    have hA2 : ¬ A = 0 := by omega
    have hq : 0 ≤ (10000000 : Int).tdiv A ∧ (10000000 : Int).tdiv A ≤ 10000000 := by
      rw [Int.tdiv_eq_ediv_of_nonneg (by omega)]
      exact ⟨Int.ediv_nonneg (by omega) (by omega), Int.ediv_le_self _ (by omega)⟩
    obtain ⟨q, hqq⟩ : ∃ q, (10000000 : Int).tdiv A = q := ⟨_, rfl⟩
    rw [hqq] at hq HF
    obtain ⟨q1, q2⟩ := hq
    have hwq : IntKind.i64.wrap q = q := wr64 (by omega)
    clear hT hp hA hB ha
    go_enter Try.func34, Try.ntmps34
    go_wp2_with fail
    refine (HP.out _).mono ?_
    rintro e w2 ⟨rfl, rfl⟩
    go_wp2_with fail
    refine (HT.out _).mono ?_
    rintro e w2 ⟨rfl, rfl⟩
    go_wp2_with fail
    go_ret
    exact ⟨ret_bool HF.out.symm, rfl⟩
theorem ciFits_as (T p : Int) (o : Bool) (w : World) (hT : Wid T) (hp : Wid p) (h : fitB T p = o) :
    Calls Try.prog 34 #[.int .i64 T, .int .i64 p] w fun e w' => e = .returned (.bool o) ∧ w = w' := by
  subst h; exact ciFits_any T p w hT hp
theorem big_out {a T p : Int} (ha : -1000000 ≤ a ∧ a ≤ 1000000) (h : fitB T p = false) : within (-1000000) 1000000 (a + -T * p) = false := by
  have := fit_false h
  rw [Int.neg_mul]
  unfold within
  rw [Bool.and_eq_false_iff]
  rcases this with h | h
  · right; rw [decide_eq_false_iff_not]; omega
  · left; rw [decide_eq_false_iff_not]; omega
theorem ciB_out0 {a b x y : Int} (h : within (-1000000) 1000000 a = false) : ciB (a, b, x, y) = false := ciB_of_in (by simp [ciIn, h])
theorem ciB_out1 {a b x y : Int} (h : within (-1000000) 1000000 b = false) : ciB (a, b, x, y) = false := ciB_of_in (by simp [ciIn, h])
theorem ciB_out2 {a b x y : Int} (h : within (-1000000) 1000000 x = false) : ciB (a, b, x, y) = false := ciB_of_in (by simp [ciIn, h])
theorem ciB_out3 {a b x y : Int} (h : within (-1000000) 1000000 y = false) : ciB (a, b, x, y) = false := ciB_of_in (by simp [ciIn, h])
set_option maxRecDepth 20000 in
set_option maxHeartbeats 2000000 in
theorem reflS_any (a b x y p q r s : Int) (w : World) :
    Calls Try.prog 24 #[.agg #[.int .i64 a, .int .i64 b, .int .i64 x, .int .i64 y], .agg #[.int .i64 p, .int .i64 q, .int .i64 r, .int .i64 s]] w fun e w' => CiAns w (reflAns (a, b, x, y) (p, q, r, s)) e w' := by
  have HL := hid (((Later.alloc w (.cells #[.int .i64 a, .int .i64 b, .int .i64 x, .int .i64 y] 25)).trans (Later.alloc _ (.cells #[.int .i64 p, .int .i64 q, .int .i64 r, .int .i64 s] 25))).trans (Later.alloc _ (.cells #[.int .i64 0, .int .i64 0, .int .i64 0, .int .i64 0] 25)))
  have HC := hid (((CBox.new w a b x y 25).later (Later.alloc _ (.cells #[.int .i64 p, .int .i64 q, .int .i64 r, .int .i64 s] 25))).later (Later.alloc _ (.cells #[.int .i64 0, .int .i64 0, .int .i64 0, .int .i64 0] 25)))
  have HD : Hid (CBox (((w.alloc (.cells #[.int .i64 a, .int .i64 b, .int .i64 x, .int .i64 y] 25)).alloc (.cells #[.int .i64 p, .int .i64 q, .int .i64 r, .int .i64 s] 25)).alloc (.cells #[.int .i64 0, .int .i64 0, .int .i64 0, .int .i64 0] 25)) (w.heap.size + 1 + 1) 0 0 0 0) := hid (by have := CBox.new ((w.alloc (.cells #[.int .i64 a, .int .i64 b, .int .i64 x, .int .i64 y] 25)).alloc (.cells #[.int .i64 p, .int .i64 q, .int .i64 r, .int .i64 s] 25)) 0 0 0 0 25; simpa using this)
  have HF : Hid (∀ j, (((w.alloc (.cells #[.int .i64 a, .int .i64 b, .int .i64 x, .int .i64 y] 25)).alloc (.cells #[.int .i64 p, .int .i64 q, .int .i64 r, .int .i64 s] 25)).alloc (.cells #[.int .i64 0, .int .i64 0, .int .i64 0, .int .i64 0] 25)).frozen? ⟨w.heap.size + 1 + 1, j, none⟩ = false) := hid (fun j => by simp [go_sem])
  have HP := hid (show CBox (((w.alloc (.cells #[.int .i64 a, .int .i64 b, .int .i64 x, .int .i64 y] 25)).alloc (.cells #[.int .i64 p, .int .i64 q, .int .i64 r, .int .i64 s] 25)).alloc (.cells #[.int .i64 0, .int .i64 0, .int .i64 0, .int .i64 0] 25)) (w.heap.size + 1) p q r s from by have := (CBox.new (w.alloc (.cells #[.int .i64 a, .int .i64 b, .int .i64 x, .int .i64 y] 25)) p q r s 25).later (Later.alloc _ (.cells #[.int .i64 0, .int .i64 0, .int .i64 0, .int .i64 0] 25)); simpa using this)
  cases hb : ciB (a, b, x, y)
  · have HB := hid hb
    have HA := hid (show reflAns (a, b, x, y) (p, q, r, s) = none by unfold reflAns; rw [hb]; simp)
    clear hb
    go_enter Try.func24, Try.ntmps24
    go_wp2_with fail
    generalize ((w.alloc (.cells #[.int .i64 a, .int .i64 b, .int .i64 x, .int .i64 y] 25)).alloc (.cells #[.int .i64 p, .int .i64 q, .int .i64 r, .int .i64 s] 25)).alloc (.cells #[.int .i64 0, .int .i64 0, .int .i64 0, .int .i64 0] 25) = w1 at HL HC HD HF HP ⊢
    obtain ⟨c0, c1, c2, c3⟩ := HC.out
    obtain ⟨p0, p1, p2, p3⟩ := HP.out
    refine (ciGood_as a b x y false _ HB.out).mono ?_
    rintro e w2 ⟨rfl, hL2⟩
    have HL2 := hid (HL.out.trans hL2)
    have HC2 := hid (HC.out.later hL2)
    have HD2 := hid (HD.out.later hL2)
    have HP2 := hid (HP.out.later hL2)
    have HG2 := hid (And.intro (hL2.frozen HD.out.1 (HF.out 0)) (And.intro (hL2.frozen HD.out.2.1 (HF.out 1)) (And.intro (hL2.frozen HD.out.2.2.1 (HF.out 2)) (hL2.frozen HD.out.2.2.2 (HF.out 3)))))
    clear hL2
    clear c0 c1 c2 c3
    obtain ⟨c0, c1, c2, c3⟩ := HC2.out
    obtain ⟨d0, d1, d2, d3⟩ := HD2.out
    obtain ⟨f0, f1, f2, f3⟩ := HG2.out
    clear p0 p1 p2 p3
    obtain ⟨p0, p1, p2, p3⟩ := HP2.out
    go_wp2_with fail
    have HLz : Hid (Later w ((((w2.setCell ⟨w.heap.size + 1 + 1, 0, none⟩ (.int .i64 0)).setCell ⟨w.heap.size + 1 + 1, 1, none⟩ (.int .i64 0)).setCell ⟨w.heap.size + 1 + 1, 2, none⟩ (.int .i64 0)).setCell ⟨w.heap.size + 1 + 1, 3, none⟩ (.int .i64 0))) := hid (set4_later HL2.out (by omega) 0 _ _ _ _)
    have HCz := hid (HD2.out.set (0) (0) (0) (0))
    generalize ((((w2.setCell ⟨w.heap.size + 1 + 1, 0, none⟩ (.int .i64 0)).setCell ⟨w.heap.size + 1 + 1, 1, none⟩ (.int .i64 0)).setCell ⟨w.heap.size + 1 + 1, 2, none⟩ (.int .i64 0)).setCell ⟨w.heap.size + 1 + 1, 3, none⟩ (.int .i64 0)) = wz at HLz HCz ⊢
    obtain ⟨g0, g1, g2, g3⟩ := HCz.out
    refine bodyPost_ret (v := .tuple #[.agg #[.int .i64 0, .int .i64 0, .int .i64 0, .int .i64 0], .bool false]) ?_ rfl ⟨by rw [HA.out]; rfl, HLz.out⟩
    rw [results_cell_tmp rfl]
    go_simp
  · have HB := hid hb
    cases hd : ciB (p, q, r, s)
    · have HDD := hid hd
      have HA := hid (show reflAns (a, b, x, y) (p, q, r, s) = none by unfold reflAns; rw [hd]; simp)
      clear hb hd
      go_enter Try.func24, Try.ntmps24
      go_wp2_with fail
      generalize ((w.alloc (.cells #[.int .i64 a, .int .i64 b, .int .i64 x, .int .i64 y] 25)).alloc (.cells #[.int .i64 p, .int .i64 q, .int .i64 r, .int .i64 s] 25)).alloc (.cells #[.int .i64 0, .int .i64 0, .int .i64 0, .int .i64 0] 25) = w1 at HL HC HD HF HP ⊢
      obtain ⟨c0, c1, c2, c3⟩ := HC.out
      obtain ⟨p0, p1, p2, p3⟩ := HP.out
      refine (ciGood_as a b x y true _ HB.out).mono ?_
      rintro e w2 ⟨rfl, hL2⟩
      have HL2 := hid (HL.out.trans hL2)
      have HC2 := hid (HC.out.later hL2)
      have HD2 := hid (HD.out.later hL2)
      have HP2 := hid (HP.out.later hL2)
      have HG2 := hid (And.intro (hL2.frozen HD.out.1 (HF.out 0)) (And.intro (hL2.frozen HD.out.2.1 (HF.out 1)) (And.intro (hL2.frozen HD.out.2.2.1 (HF.out 2)) (hL2.frozen HD.out.2.2.2 (HF.out 3)))))
      clear hL2
      clear c0 c1 c2 c3
      obtain ⟨c0, c1, c2, c3⟩ := HC2.out
      obtain ⟨d0, d1, d2, d3⟩ := HD2.out
      obtain ⟨f0, f1, f2, f3⟩ := HG2.out
      clear p0 p1 p2 p3
      obtain ⟨p0, p1, p2, p3⟩ := HP2.out
      go_wp2_with fail
      refine (ciGood_as p q r s false _ HDD.out).mono ?_
      rintro e w3 ⟨rfl, hL3⟩
      have HL3 := hid (HL2.out.trans hL3)
      have HC3 := hid (HC2.out.later hL3)
      have HD3 := hid (HD2.out.later hL3)
      have HP3 := hid (HP2.out.later hL3)
      have HG3 := hid (And.intro (hL3.frozen HD2.out.1 (HG2.out.1)) (And.intro (hL3.frozen HD2.out.2.1 (HG2.out.2.1)) (And.intro (hL3.frozen HD2.out.2.2.1 (HG2.out.2.2.1)) (hL3.frozen HD2.out.2.2.2 (HG2.out.2.2.2)))))
      clear hL3
      clear c0 c1 c2 c3
      obtain ⟨c0, c1, c2, c3⟩ := HC3.out
      obtain ⟨d0, d1, d2, d3⟩ := HD3.out
      obtain ⟨f0, f1, f2, f3⟩ := HG3.out
      clear p0 p1 p2 p3
      obtain ⟨p0, p1, p2, p3⟩ := HP3.out
      go_wp2_with fail
      have HLz : Hid (Later w ((((w3.setCell ⟨w.heap.size + 1 + 1, 0, none⟩ (.int .i64 0)).setCell ⟨w.heap.size + 1 + 1, 1, none⟩ (.int .i64 0)).setCell ⟨w.heap.size + 1 + 1, 2, none⟩ (.int .i64 0)).setCell ⟨w.heap.size + 1 + 1, 3, none⟩ (.int .i64 0))) := hid (set4_later HL3.out (by omega) 0 _ _ _ _)
      have HCz := hid (HD3.out.set (0) (0) (0) (0))
      generalize ((((w3.setCell ⟨w.heap.size + 1 + 1, 0, none⟩ (.int .i64 0)).setCell ⟨w.heap.size + 1 + 1, 1, none⟩ (.int .i64 0)).setCell ⟨w.heap.size + 1 + 1, 2, none⟩ (.int .i64 0)).setCell ⟨w.heap.size + 1 + 1, 3, none⟩ (.int .i64 0)) = wz at HLz HCz ⊢
      obtain ⟨g0, g1, g2, g3⟩ := HCz.out
      refine bodyPost_ret (v := .tuple #[.agg #[.int .i64 0, .int .i64 0, .int .i64 0, .int .i64 0], .bool false]) ?_ rfl ⟨by rw [HA.out]; rfl, HLz.out⟩
      rw [results_cell_tmp rfl]
      go_simp
    · have HDD := hid hd
      have HTW := hid (fun w0 => twiceS_any a b x y p q r s w0 (ciB_in hb) (ciB_in hd))
      have hT := ciTw_bd (ciB_in hb) (ciB_in hd)
      have HRA := hid (show reflAns (a, b, x, y) (p, q, r, s) = ifAns (plusOf (a, b, x, y) (p, q, r, s) (-(ciTw (a, b, x, y) (p, q, r, s)))) by unfold reflAns ifAns; rw [hb, hd]; simp)
      obtain ⟨T, hTT⟩ : ∃ T, ciTw (a, b, x, y) (p, q, r, s) = T := ⟨_, rfl⟩
      rw [hTT] at HTW hT HRA
      have hMT : Wid T := by unfold Wid; omega
      obtain ⟨⟨a1, a2⟩, ⟨b1, b2⟩, ⟨x1, x2⟩, y1, y2⟩ := ci_of hb
      obtain ⟨⟨p1, p2⟩, ⟨q1, q2⟩, ⟨r1, r2⟩, s1, s2⟩ := ci_of hd
      have HMP := hid (And.intro hMT (And.intro (show Wid p by unfold Wid; omega) (And.intro (show Wid q by unfold Wid; omega) (And.intro (show Wid r by unfold Wid; omega) (show Wid s by unfold Wid; omega)))))
      have HBG := hid (And.intro (And.intro a1 a2) (And.intro (And.intro b1 b2) (And.intro (And.intro x1 x2) (And.intro y1 y2))))
      clear hTT hb hd hMT
      cases hf0 : fitB T p
      · have HF0 := hid hf0
        have HA := hid (show reflAns (a, b, x, y) (p, q, r, s) = none by rw [HRA.out]; unfold ifAns plusOf; rw [ciB_out0 (big_out HBG.out.1 hf0)]; simp)
        clear hf0
        go_enter Try.func24, Try.ntmps24
        go_wp2_with fail
        generalize ((w.alloc (.cells #[.int .i64 a, .int .i64 b, .int .i64 x, .int .i64 y] 25)).alloc (.cells #[.int .i64 p, .int .i64 q, .int .i64 r, .int .i64 s] 25)).alloc (.cells #[.int .i64 0, .int .i64 0, .int .i64 0, .int .i64 0] 25) = w1 at HL HC HD HF HP ⊢
        obtain ⟨c0, c1, c2, c3⟩ := HC.out
        obtain ⟨p0, p1, p2, p3⟩ := HP.out
        refine (ciGood_as a b x y true _ HB.out).mono ?_
        rintro e w2 ⟨rfl, hL2⟩
        have HL2 := hid (HL.out.trans hL2)
        have HC2 := hid (HC.out.later hL2)
        have HD2 := hid (HD.out.later hL2)
        have HP2 := hid (HP.out.later hL2)
        have HG2 := hid (And.intro (hL2.frozen HD.out.1 (HF.out 0)) (And.intro (hL2.frozen HD.out.2.1 (HF.out 1)) (And.intro (hL2.frozen HD.out.2.2.1 (HF.out 2)) (hL2.frozen HD.out.2.2.2 (HF.out 3)))))
        clear hL2
        clear c0 c1 c2 c3
        obtain ⟨c0, c1, c2, c3⟩ := HC2.out
        obtain ⟨d0, d1, d2, d3⟩ := HD2.out
        obtain ⟨f0, f1, f2, f3⟩ := HG2.out
        clear p0 p1 p2 p3
        obtain ⟨p0, p1, p2, p3⟩ := HP2.out
        go_wp2_with fail
        refine (ciGood_as p q r s true _ HDD.out).mono ?_
        rintro e w3 ⟨rfl, hL3⟩
        have HL3 := hid (HL2.out.trans hL3)
        have HC3 := hid (HC2.out.later hL3)
        have HD3 := hid (HD2.out.later hL3)
        have HP3 := hid (HP2.out.later hL3)
        have HG3 := hid (And.intro (hL3.frozen HD2.out.1 (HG2.out.1)) (And.intro (hL3.frozen HD2.out.2.1 (HG2.out.2.1)) (And.intro (hL3.frozen HD2.out.2.2.1 (HG2.out.2.2.1)) (hL3.frozen HD2.out.2.2.2 (HG2.out.2.2.2)))))
        clear hL3
        clear c0 c1 c2 c3
        obtain ⟨c0, c1, c2, c3⟩ := HC3.out
        obtain ⟨d0, d1, d2, d3⟩ := HD3.out
        obtain ⟨f0, f1, f2, f3⟩ := HG3.out
        clear p0 p1 p2 p3
        obtain ⟨p0, p1, p2, p3⟩ := HP3.out
        go_wp2_with fail
        refine (HTW.out _).mono ?_
        rintro e w4 ⟨rfl, hL4⟩
        have HL4 := hid (HL3.out.trans hL4)
        have HC4 := hid (HC3.out.later hL4)
        have HD4 := hid (HD3.out.later hL4)
        have HP4 := hid (HP3.out.later hL4)
        have HG4 := hid (And.intro (hL4.frozen HD3.out.1 (HG3.out.1)) (And.intro (hL4.frozen HD3.out.2.1 (HG3.out.2.1)) (And.intro (hL4.frozen HD3.out.2.2.1 (HG3.out.2.2.1)) (hL4.frozen HD3.out.2.2.2 (HG3.out.2.2.2)))))
        clear hL4
        clear c0 c1 c2 c3
        obtain ⟨c0, c1, c2, c3⟩ := HC4.out
        obtain ⟨d0, d1, d2, d3⟩ := HD4.out
        obtain ⟨f0, f1, f2, f3⟩ := HG4.out
        clear p0 p1 p2 p3
        obtain ⟨p0, p1, p2, p3⟩ := HP4.out
        go_wp2_with fail
        refine (ciFits_as T p false _ HMP.out.1 HMP.out.2.1 HF0.out).mono ?_
        rintro e w5 ⟨rfl, rfl⟩
        go_wp2_with fail
        have HLz : Hid (Later w ((((w4.setCell ⟨w.heap.size + 1 + 1, 0, none⟩ (.int .i64 0)).setCell ⟨w.heap.size + 1 + 1, 1, none⟩ (.int .i64 0)).setCell ⟨w.heap.size + 1 + 1, 2, none⟩ (.int .i64 0)).setCell ⟨w.heap.size + 1 + 1, 3, none⟩ (.int .i64 0))) := hid (set4_later HL4.out (by omega) 0 _ _ _ _)
        have HCz := hid (HD4.out.set (0) (0) (0) (0))
        generalize ((((w4.setCell ⟨w.heap.size + 1 + 1, 0, none⟩ (.int .i64 0)).setCell ⟨w.heap.size + 1 + 1, 1, none⟩ (.int .i64 0)).setCell ⟨w.heap.size + 1 + 1, 2, none⟩ (.int .i64 0)).setCell ⟨w.heap.size + 1 + 1, 3, none⟩ (.int .i64 0)) = wz at HLz HCz ⊢
        obtain ⟨g0, g1, g2, g3⟩ := HCz.out
        refine bodyPost_ret (v := .tuple #[.agg #[.int .i64 0, .int .i64 0, .int .i64 0, .int .i64 0], .bool false]) ?_ rfl ⟨by rw [HA.out]; rfl, HLz.out⟩
        rw [results_cell_tmp rfl]
        go_simp
      · have HF0 := hid hf0
        cases hf1 : fitB T q
        · have HF1 := hid hf1
          have HA := hid (show reflAns (a, b, x, y) (p, q, r, s) = none by rw [HRA.out]; unfold ifAns plusOf; rw [ciB_out1 (big_out HBG.out.2.1 hf1)]; simp)
          clear hf0 hf1
          go_enter Try.func24, Try.ntmps24
          go_wp2_with fail
          generalize ((w.alloc (.cells #[.int .i64 a, .int .i64 b, .int .i64 x, .int .i64 y] 25)).alloc (.cells #[.int .i64 p, .int .i64 q, .int .i64 r, .int .i64 s] 25)).alloc (.cells #[.int .i64 0, .int .i64 0, .int .i64 0, .int .i64 0] 25) = w1 at HL HC HD HF HP ⊢
          obtain ⟨c0, c1, c2, c3⟩ := HC.out
          obtain ⟨p0, p1, p2, p3⟩ := HP.out
          refine (ciGood_as a b x y true _ HB.out).mono ?_
          rintro e w2 ⟨rfl, hL2⟩
          have HL2 := hid (HL.out.trans hL2)
          have HC2 := hid (HC.out.later hL2)
          have HD2 := hid (HD.out.later hL2)
          have HP2 := hid (HP.out.later hL2)
          have HG2 := hid (And.intro (hL2.frozen HD.out.1 (HF.out 0)) (And.intro (hL2.frozen HD.out.2.1 (HF.out 1)) (And.intro (hL2.frozen HD.out.2.2.1 (HF.out 2)) (hL2.frozen HD.out.2.2.2 (HF.out 3)))))
          clear hL2
          clear c0 c1 c2 c3
          obtain ⟨c0, c1, c2, c3⟩ := HC2.out
          obtain ⟨d0, d1, d2, d3⟩ := HD2.out
          obtain ⟨f0, f1, f2, f3⟩ := HG2.out
          clear p0 p1 p2 p3
          obtain ⟨p0, p1, p2, p3⟩ := HP2.out
          go_wp2_with fail
          refine (ciGood_as p q r s true _ HDD.out).mono ?_
          rintro e w3 ⟨rfl, hL3⟩
          have HL3 := hid (HL2.out.trans hL3)
          have HC3 := hid (HC2.out.later hL3)
          have HD3 := hid (HD2.out.later hL3)
          have HP3 := hid (HP2.out.later hL3)
          have HG3 := hid (And.intro (hL3.frozen HD2.out.1 (HG2.out.1)) (And.intro (hL3.frozen HD2.out.2.1 (HG2.out.2.1)) (And.intro (hL3.frozen HD2.out.2.2.1 (HG2.out.2.2.1)) (hL3.frozen HD2.out.2.2.2 (HG2.out.2.2.2)))))
          clear hL3
          clear c0 c1 c2 c3
          obtain ⟨c0, c1, c2, c3⟩ := HC3.out
          obtain ⟨d0, d1, d2, d3⟩ := HD3.out
          obtain ⟨f0, f1, f2, f3⟩ := HG3.out
          clear p0 p1 p2 p3
          obtain ⟨p0, p1, p2, p3⟩ := HP3.out
          go_wp2_with fail
          refine (HTW.out _).mono ?_
          rintro e w4 ⟨rfl, hL4⟩
          have HL4 := hid (HL3.out.trans hL4)
          have HC4 := hid (HC3.out.later hL4)
          have HD4 := hid (HD3.out.later hL4)
          have HP4 := hid (HP3.out.later hL4)
          have HG4 := hid (And.intro (hL4.frozen HD3.out.1 (HG3.out.1)) (And.intro (hL4.frozen HD3.out.2.1 (HG3.out.2.1)) (And.intro (hL4.frozen HD3.out.2.2.1 (HG3.out.2.2.1)) (hL4.frozen HD3.out.2.2.2 (HG3.out.2.2.2)))))
          clear hL4
          clear c0 c1 c2 c3
          obtain ⟨c0, c1, c2, c3⟩ := HC4.out
          obtain ⟨d0, d1, d2, d3⟩ := HD4.out
          obtain ⟨f0, f1, f2, f3⟩ := HG4.out
          clear p0 p1 p2 p3
          obtain ⟨p0, p1, p2, p3⟩ := HP4.out
          go_wp2_with fail
          refine (ciFits_as T p true _ HMP.out.1 HMP.out.2.1 HF0.out).mono ?_
          rintro e w5 ⟨rfl, rfl⟩
          go_wp2_with fail
          refine (ciFits_as T q false _ HMP.out.1 HMP.out.2.2.1 HF1.out).mono ?_
          rintro e w5 ⟨rfl, rfl⟩
          go_wp2_with fail
          have HLz : Hid (Later w ((((w4.setCell ⟨w.heap.size + 1 + 1, 0, none⟩ (.int .i64 0)).setCell ⟨w.heap.size + 1 + 1, 1, none⟩ (.int .i64 0)).setCell ⟨w.heap.size + 1 + 1, 2, none⟩ (.int .i64 0)).setCell ⟨w.heap.size + 1 + 1, 3, none⟩ (.int .i64 0))) := hid (set4_later HL4.out (by omega) 0 _ _ _ _)
          have HCz := hid (HD4.out.set (0) (0) (0) (0))
          generalize ((((w4.setCell ⟨w.heap.size + 1 + 1, 0, none⟩ (.int .i64 0)).setCell ⟨w.heap.size + 1 + 1, 1, none⟩ (.int .i64 0)).setCell ⟨w.heap.size + 1 + 1, 2, none⟩ (.int .i64 0)).setCell ⟨w.heap.size + 1 + 1, 3, none⟩ (.int .i64 0)) = wz at HLz HCz ⊢
          obtain ⟨g0, g1, g2, g3⟩ := HCz.out
          refine bodyPost_ret (v := .tuple #[.agg #[.int .i64 0, .int .i64 0, .int .i64 0, .int .i64 0], .bool false]) ?_ rfl ⟨by rw [HA.out]; rfl, HLz.out⟩
          rw [results_cell_tmp rfl]
          go_simp
        · have HF1 := hid hf1
          cases hf2 : fitB T r
          · have HF2 := hid hf2
            have HA := hid (show reflAns (a, b, x, y) (p, q, r, s) = none by rw [HRA.out]; unfold ifAns plusOf; rw [ciB_out2 (big_out HBG.out.2.2.1 hf2)]; simp)
            clear hf0 hf1 hf2
            go_enter Try.func24, Try.ntmps24
            go_wp2_with fail
            generalize ((w.alloc (.cells #[.int .i64 a, .int .i64 b, .int .i64 x, .int .i64 y] 25)).alloc (.cells #[.int .i64 p, .int .i64 q, .int .i64 r, .int .i64 s] 25)).alloc (.cells #[.int .i64 0, .int .i64 0, .int .i64 0, .int .i64 0] 25) = w1 at HL HC HD HF HP ⊢
            obtain ⟨c0, c1, c2, c3⟩ := HC.out
            obtain ⟨p0, p1, p2, p3⟩ := HP.out
            refine (ciGood_as a b x y true _ HB.out).mono ?_
            rintro e w2 ⟨rfl, hL2⟩
            have HL2 := hid (HL.out.trans hL2)
            have HC2 := hid (HC.out.later hL2)
            have HD2 := hid (HD.out.later hL2)
            have HP2 := hid (HP.out.later hL2)
            have HG2 := hid (And.intro (hL2.frozen HD.out.1 (HF.out 0)) (And.intro (hL2.frozen HD.out.2.1 (HF.out 1)) (And.intro (hL2.frozen HD.out.2.2.1 (HF.out 2)) (hL2.frozen HD.out.2.2.2 (HF.out 3)))))
            clear hL2
            clear c0 c1 c2 c3
            obtain ⟨c0, c1, c2, c3⟩ := HC2.out
            obtain ⟨d0, d1, d2, d3⟩ := HD2.out
            obtain ⟨f0, f1, f2, f3⟩ := HG2.out
            clear p0 p1 p2 p3
            obtain ⟨p0, p1, p2, p3⟩ := HP2.out
            go_wp2_with fail
            refine (ciGood_as p q r s true _ HDD.out).mono ?_
            rintro e w3 ⟨rfl, hL3⟩
            have HL3 := hid (HL2.out.trans hL3)
            have HC3 := hid (HC2.out.later hL3)
            have HD3 := hid (HD2.out.later hL3)
            have HP3 := hid (HP2.out.later hL3)
            have HG3 := hid (And.intro (hL3.frozen HD2.out.1 (HG2.out.1)) (And.intro (hL3.frozen HD2.out.2.1 (HG2.out.2.1)) (And.intro (hL3.frozen HD2.out.2.2.1 (HG2.out.2.2.1)) (hL3.frozen HD2.out.2.2.2 (HG2.out.2.2.2)))))
            clear hL3
            clear c0 c1 c2 c3
            obtain ⟨c0, c1, c2, c3⟩ := HC3.out
            obtain ⟨d0, d1, d2, d3⟩ := HD3.out
            obtain ⟨f0, f1, f2, f3⟩ := HG3.out
            clear p0 p1 p2 p3
            obtain ⟨p0, p1, p2, p3⟩ := HP3.out
            go_wp2_with fail
            refine (HTW.out _).mono ?_
            rintro e w4 ⟨rfl, hL4⟩
            have HL4 := hid (HL3.out.trans hL4)
            have HC4 := hid (HC3.out.later hL4)
            have HD4 := hid (HD3.out.later hL4)
            have HP4 := hid (HP3.out.later hL4)
            have HG4 := hid (And.intro (hL4.frozen HD3.out.1 (HG3.out.1)) (And.intro (hL4.frozen HD3.out.2.1 (HG3.out.2.1)) (And.intro (hL4.frozen HD3.out.2.2.1 (HG3.out.2.2.1)) (hL4.frozen HD3.out.2.2.2 (HG3.out.2.2.2)))))
            clear hL4
            clear c0 c1 c2 c3
            obtain ⟨c0, c1, c2, c3⟩ := HC4.out
            obtain ⟨d0, d1, d2, d3⟩ := HD4.out
            obtain ⟨f0, f1, f2, f3⟩ := HG4.out
            clear p0 p1 p2 p3
            obtain ⟨p0, p1, p2, p3⟩ := HP4.out
            go_wp2_with fail
            refine (ciFits_as T p true _ HMP.out.1 HMP.out.2.1 HF0.out).mono ?_
            rintro e w5 ⟨rfl, rfl⟩
            go_wp2_with fail
            refine (ciFits_as T q true _ HMP.out.1 HMP.out.2.2.1 HF1.out).mono ?_
            rintro e w5 ⟨rfl, rfl⟩
            go_wp2_with fail
            refine (ciFits_as T r false _ HMP.out.1 HMP.out.2.2.2.1 HF2.out).mono ?_
            rintro e w5 ⟨rfl, rfl⟩
            go_wp2_with fail
            have HLz : Hid (Later w ((((w4.setCell ⟨w.heap.size + 1 + 1, 0, none⟩ (.int .i64 0)).setCell ⟨w.heap.size + 1 + 1, 1, none⟩ (.int .i64 0)).setCell ⟨w.heap.size + 1 + 1, 2, none⟩ (.int .i64 0)).setCell ⟨w.heap.size + 1 + 1, 3, none⟩ (.int .i64 0))) := hid (set4_later HL4.out (by omega) 0 _ _ _ _)
            have HCz := hid (HD4.out.set (0) (0) (0) (0))
            generalize ((((w4.setCell ⟨w.heap.size + 1 + 1, 0, none⟩ (.int .i64 0)).setCell ⟨w.heap.size + 1 + 1, 1, none⟩ (.int .i64 0)).setCell ⟨w.heap.size + 1 + 1, 2, none⟩ (.int .i64 0)).setCell ⟨w.heap.size + 1 + 1, 3, none⟩ (.int .i64 0)) = wz at HLz HCz ⊢
            obtain ⟨g0, g1, g2, g3⟩ := HCz.out
            refine bodyPost_ret (v := .tuple #[.agg #[.int .i64 0, .int .i64 0, .int .i64 0, .int .i64 0], .bool false]) ?_ rfl ⟨by rw [HA.out]; rfl, HLz.out⟩
            rw [results_cell_tmp rfl]
            go_simp
          · have HF2 := hid hf2
            cases hf3 : fitB T s
            · have HF3 := hid hf3
              have HA := hid (show reflAns (a, b, x, y) (p, q, r, s) = none by rw [HRA.out]; unfold ifAns plusOf; rw [ciB_out3 (big_out HBG.out.2.2.2 hf3)]; simp)
              clear hf0 hf1 hf2 hf3
              go_enter Try.func24, Try.ntmps24
              go_wp2_with fail
              generalize ((w.alloc (.cells #[.int .i64 a, .int .i64 b, .int .i64 x, .int .i64 y] 25)).alloc (.cells #[.int .i64 p, .int .i64 q, .int .i64 r, .int .i64 s] 25)).alloc (.cells #[.int .i64 0, .int .i64 0, .int .i64 0, .int .i64 0] 25) = w1 at HL HC HD HF HP ⊢
              obtain ⟨c0, c1, c2, c3⟩ := HC.out
              obtain ⟨p0, p1, p2, p3⟩ := HP.out
              refine (ciGood_as a b x y true _ HB.out).mono ?_
              rintro e w2 ⟨rfl, hL2⟩
              have HL2 := hid (HL.out.trans hL2)
              have HC2 := hid (HC.out.later hL2)
              have HD2 := hid (HD.out.later hL2)
              have HP2 := hid (HP.out.later hL2)
              have HG2 := hid (And.intro (hL2.frozen HD.out.1 (HF.out 0)) (And.intro (hL2.frozen HD.out.2.1 (HF.out 1)) (And.intro (hL2.frozen HD.out.2.2.1 (HF.out 2)) (hL2.frozen HD.out.2.2.2 (HF.out 3)))))
              clear hL2
              clear c0 c1 c2 c3
              obtain ⟨c0, c1, c2, c3⟩ := HC2.out
              obtain ⟨d0, d1, d2, d3⟩ := HD2.out
              obtain ⟨f0, f1, f2, f3⟩ := HG2.out
              clear p0 p1 p2 p3
              obtain ⟨p0, p1, p2, p3⟩ := HP2.out
              go_wp2_with fail
              refine (ciGood_as p q r s true _ HDD.out).mono ?_
              rintro e w3 ⟨rfl, hL3⟩
              have HL3 := hid (HL2.out.trans hL3)
              have HC3 := hid (HC2.out.later hL3)
              have HD3 := hid (HD2.out.later hL3)
              have HP3 := hid (HP2.out.later hL3)
              have HG3 := hid (And.intro (hL3.frozen HD2.out.1 (HG2.out.1)) (And.intro (hL3.frozen HD2.out.2.1 (HG2.out.2.1)) (And.intro (hL3.frozen HD2.out.2.2.1 (HG2.out.2.2.1)) (hL3.frozen HD2.out.2.2.2 (HG2.out.2.2.2)))))
              clear hL3
              clear c0 c1 c2 c3
              obtain ⟨c0, c1, c2, c3⟩ := HC3.out
              obtain ⟨d0, d1, d2, d3⟩ := HD3.out
              obtain ⟨f0, f1, f2, f3⟩ := HG3.out
              clear p0 p1 p2 p3
              obtain ⟨p0, p1, p2, p3⟩ := HP3.out
              go_wp2_with fail
              refine (HTW.out _).mono ?_
              rintro e w4 ⟨rfl, hL4⟩
              have HL4 := hid (HL3.out.trans hL4)
              have HC4 := hid (HC3.out.later hL4)
              have HD4 := hid (HD3.out.later hL4)
              have HP4 := hid (HP3.out.later hL4)
              have HG4 := hid (And.intro (hL4.frozen HD3.out.1 (HG3.out.1)) (And.intro (hL4.frozen HD3.out.2.1 (HG3.out.2.1)) (And.intro (hL4.frozen HD3.out.2.2.1 (HG3.out.2.2.1)) (hL4.frozen HD3.out.2.2.2 (HG3.out.2.2.2)))))
              clear hL4
              clear c0 c1 c2 c3
              obtain ⟨c0, c1, c2, c3⟩ := HC4.out
              obtain ⟨d0, d1, d2, d3⟩ := HD4.out
              obtain ⟨f0, f1, f2, f3⟩ := HG4.out
              clear p0 p1 p2 p3
              obtain ⟨p0, p1, p2, p3⟩ := HP4.out
              go_wp2_with fail
              refine (ciFits_as T p true _ HMP.out.1 HMP.out.2.1 HF0.out).mono ?_
              rintro e w5 ⟨rfl, rfl⟩
              go_wp2_with fail
              refine (ciFits_as T q true _ HMP.out.1 HMP.out.2.2.1 HF1.out).mono ?_
              rintro e w5 ⟨rfl, rfl⟩
              go_wp2_with fail
              refine (ciFits_as T r true _ HMP.out.1 HMP.out.2.2.2.1 HF2.out).mono ?_
              rintro e w5 ⟨rfl, rfl⟩
              go_wp2_with fail
              refine (ciFits_as T s false _ HMP.out.1 HMP.out.2.2.2.2 HF3.out).mono ?_
              rintro e w5 ⟨rfl, rfl⟩
              go_wp2_with fail
              have HLz : Hid (Later w ((((w4.setCell ⟨w.heap.size + 1 + 1, 0, none⟩ (.int .i64 0)).setCell ⟨w.heap.size + 1 + 1, 1, none⟩ (.int .i64 0)).setCell ⟨w.heap.size + 1 + 1, 2, none⟩ (.int .i64 0)).setCell ⟨w.heap.size + 1 + 1, 3, none⟩ (.int .i64 0))) := hid (set4_later HL4.out (by omega) 0 _ _ _ _)
              have HCz := hid (HD4.out.set (0) (0) (0) (0))
              generalize ((((w4.setCell ⟨w.heap.size + 1 + 1, 0, none⟩ (.int .i64 0)).setCell ⟨w.heap.size + 1 + 1, 1, none⟩ (.int .i64 0)).setCell ⟨w.heap.size + 1 + 1, 2, none⟩ (.int .i64 0)).setCell ⟨w.heap.size + 1 + 1, 3, none⟩ (.int .i64 0)) = wz at HLz HCz ⊢
              obtain ⟨g0, g1, g2, g3⟩ := HCz.out
              refine bodyPost_ret (v := .tuple #[.agg #[.int .i64 0, .int .i64 0, .int .i64 0, .int .i64 0], .bool false]) ?_ rfl ⟨by rw [HA.out]; rfl, HLz.out⟩
              rw [results_cell_tmp rfl]
              go_simp
            · have HF3 := hid hf3
              obtain ⟨z0, z1⟩ := fit_true hf0
              obtain ⟨z2, z3⟩ := fit_true hf1
              obtain ⟨z4, z5⟩ := fit_true hf2
              obtain ⟨z6, z7⟩ := fit_true hf3
              have HA := hid (show reflAns (a, b, x, y) (p, q, r, s) = ifAns (a - T * p, b - T * q, x - T * r, y - T * s) by rw [HRA.out]; unfold plusOf; simp only [Int.neg_mul, ← Int.sub_eq_add_neg])
              have HIF := hid (fun w0 => ciIf_any (a - T * p) (b - T * q) (x - T * r) (y - T * s) w0)
              obtain ⟨o, ho⟩ : ∃ o, ifAns (a - T * p, b - T * q, x - T * r, y - T * s) = o := ⟨_, rfl⟩
              unfold CiAns at HIF
              rw [ho] at HIF HA
              obtain ⟨R, hR⟩ : ∃ R, o.getD c00 = R := ⟨_, rfl⟩
              obtain ⟨ra, rb, rx, ry⟩ := R
              rw [hR] at HIF
              have HR := hid hR
              clear hf0 hf1 hf2 hf3 ho hR
              go_enter Try.func24, Try.ntmps24
              go_wp2_with fail
              generalize ((w.alloc (.cells #[.int .i64 a, .int .i64 b, .int .i64 x, .int .i64 y] 25)).alloc (.cells #[.int .i64 p, .int .i64 q, .int .i64 r, .int .i64 s] 25)).alloc (.cells #[.int .i64 0, .int .i64 0, .int .i64 0, .int .i64 0] 25) = w1 at HL HC HD HF HP ⊢
              obtain ⟨c0, c1, c2, c3⟩ := HC.out
              obtain ⟨p0, p1, p2, p3⟩ := HP.out
              refine (ciGood_as a b x y true _ HB.out).mono ?_
              rintro e w2 ⟨rfl, hL2⟩
              have HL2 := hid (HL.out.trans hL2)
              have HC2 := hid (HC.out.later hL2)
              have HD2 := hid (HD.out.later hL2)
              have HP2 := hid (HP.out.later hL2)
              have HG2 := hid (And.intro (hL2.frozen HD.out.1 (HF.out 0)) (And.intro (hL2.frozen HD.out.2.1 (HF.out 1)) (And.intro (hL2.frozen HD.out.2.2.1 (HF.out 2)) (hL2.frozen HD.out.2.2.2 (HF.out 3)))))
              clear hL2
              clear c0 c1 c2 c3
              obtain ⟨c0, c1, c2, c3⟩ := HC2.out
              obtain ⟨d0, d1, d2, d3⟩ := HD2.out
              obtain ⟨f0, f1, f2, f3⟩ := HG2.out
              clear p0 p1 p2 p3
              obtain ⟨p0, p1, p2, p3⟩ := HP2.out
              go_wp2_with fail
              refine (ciGood_as p q r s true _ HDD.out).mono ?_
              rintro e w3 ⟨rfl, hL3⟩
              have HL3 := hid (HL2.out.trans hL3)
              have HC3 := hid (HC2.out.later hL3)
              have HD3 := hid (HD2.out.later hL3)
              have HP3 := hid (HP2.out.later hL3)
              have HG3 := hid (And.intro (hL3.frozen HD2.out.1 (HG2.out.1)) (And.intro (hL3.frozen HD2.out.2.1 (HG2.out.2.1)) (And.intro (hL3.frozen HD2.out.2.2.1 (HG2.out.2.2.1)) (hL3.frozen HD2.out.2.2.2 (HG2.out.2.2.2)))))
              clear hL3
              clear c0 c1 c2 c3
              obtain ⟨c0, c1, c2, c3⟩ := HC3.out
              obtain ⟨d0, d1, d2, d3⟩ := HD3.out
              obtain ⟨f0, f1, f2, f3⟩ := HG3.out
              clear p0 p1 p2 p3
              obtain ⟨p0, p1, p2, p3⟩ := HP3.out
              go_wp2_with fail
              refine (HTW.out _).mono ?_
              rintro e w4 ⟨rfl, hL4⟩
              have HL4 := hid (HL3.out.trans hL4)
              have HC4 := hid (HC3.out.later hL4)
              have HD4 := hid (HD3.out.later hL4)
              have HP4 := hid (HP3.out.later hL4)
              have HG4 := hid (And.intro (hL4.frozen HD3.out.1 (HG3.out.1)) (And.intro (hL4.frozen HD3.out.2.1 (HG3.out.2.1)) (And.intro (hL4.frozen HD3.out.2.2.1 (HG3.out.2.2.1)) (hL4.frozen HD3.out.2.2.2 (HG3.out.2.2.2)))))
              clear hL4
              clear c0 c1 c2 c3
              obtain ⟨c0, c1, c2, c3⟩ := HC4.out
              obtain ⟨d0, d1, d2, d3⟩ := HD4.out
              obtain ⟨f0, f1, f2, f3⟩ := HG4.out
              clear p0 p1 p2 p3
              obtain ⟨p0, p1, p2, p3⟩ := HP4.out
              go_wp2_with fail
              refine (ciFits_as T p true _ HMP.out.1 HMP.out.2.1 HF0.out).mono ?_
              rintro e w5 ⟨rfl, rfl⟩
              go_wp2_with fail
              refine (ciFits_as T q true _ HMP.out.1 HMP.out.2.2.1 HF1.out).mono ?_
              rintro e w5 ⟨rfl, rfl⟩
              go_wp2_with fail
              refine (ciFits_as T r true _ HMP.out.1 HMP.out.2.2.2.1 HF2.out).mono ?_
              rintro e w5 ⟨rfl, rfl⟩
              go_wp2_with fail
              refine (ciFits_as T s true _ HMP.out.1 HMP.out.2.2.2.2 HF3.out).mono ?_
              rintro e w5 ⟨rfl, rfl⟩
              go_wp2_with fail
              refine (HIF.out _).mono ?_
              rintro e w5 ⟨rfl, hL5⟩
              have HL5 := hid (HL4.out.trans hL5)
              have HC5 := hid (HC4.out.later hL5)
              have HD5 := hid (HD4.out.later hL5)
              have HP5 := hid (HP4.out.later hL5)
              have HG5 := hid (And.intro (hL5.frozen HD4.out.1 (HG4.out.1)) (And.intro (hL5.frozen HD4.out.2.1 (HG4.out.2.1)) (And.intro (hL5.frozen HD4.out.2.2.1 (HG4.out.2.2.1)) (hL5.frozen HD4.out.2.2.2 (HG4.out.2.2.2)))))
              clear hL5
              clear c0 c1 c2 c3
              obtain ⟨c0, c1, c2, c3⟩ := HC5.out
              obtain ⟨d0, d1, d2, d3⟩ := HD5.out
              obtain ⟨f0, f1, f2, f3⟩ := HG5.out
              clear p0 p1 p2 p3
              obtain ⟨p0, p1, p2, p3⟩ := HP5.out
              go_wp2_with fail
              have HLz : Hid (Later w ((((w5.setCell ⟨w.heap.size + 1 + 1, 0, none⟩ (.int .i64 ra)).setCell ⟨w.heap.size + 1 + 1, 1, none⟩ (.int .i64 rb)).setCell ⟨w.heap.size + 1 + 1, 2, none⟩ (.int .i64 rx)).setCell ⟨w.heap.size + 1 + 1, 3, none⟩ (.int .i64 ry))) := hid (set4_later HL5.out (by omega) 0 _ _ _ _)
              have HCz := hid (HD5.out.set (ra) (rb) (rx) (ry))
              generalize ((((w5.setCell ⟨w.heap.size + 1 + 1, 0, none⟩ (.int .i64 ra)).setCell ⟨w.heap.size + 1 + 1, 1, none⟩ (.int .i64 rb)).setCell ⟨w.heap.size + 1 + 1, 2, none⟩ (.int .i64 rx)).setCell ⟨w.heap.size + 1 + 1, 3, none⟩ (.int .i64 ry)) = wz at HLz HCz ⊢
              obtain ⟨g0, g1, g2, g3⟩ := HCz.out
              refine bodyPost_ret (v := .tuple #[.agg #[.int .i64 ra, .int .i64 rb, .int .i64 rx, .int .i64 ry], .bool o.isSome]) ?_ rfl ⟨by rw [HA.out, HR.out], HLz.out⟩
              rw [results_cell_tmp rfl]
              go_simp
end Go.Proofs.Ytljikcajfmnnmaa
