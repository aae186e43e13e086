/- Right triples in the model: children and parents. -/
import Derived.Test.YtdahhcigphhfdacRiS
import Derived.Test.YtdahhcigphhfdacAns5
namespace Go.Proofs.Ytdahhcigphhfdac
open Go.RowKit

def childAns (C : Int → Int → Int → Int × Int) (zs : List Int) (k : Int) : Option (List Int) :=
  (rightP zs).bind fun p => if 0 ≤ k ∧ k ≤ 2 then tripAns (C p.1 p.2 k).1 (C p.1 p.2 k).2 else none
def parentAns (U : Int → Int → Int × Int × Int) (zs : List Int) : Option (List Int × Int) :=
  (rightP zs).bind fun p => if 2 < p.1 then some (sidesL (U p.1 p.2).1 (U p.1 p.2).2.1, (U p.1 p.2).2.2) else none
theorem childAns_no {C : Int → Int → Int → Int × Int} {zs : List Int} {k : Int} (h : rightP zs = none) : childAns C zs k = none := by unfold childAns; rw [h]; rfl
theorem childAns_out {C : Int → Int → Int → Int × Int} {zs : List Int} {k : Int} (h : within 0 2 k = false) : childAns C zs k = none := by
  unfold childAns
  have : ¬ (0 ≤ k ∧ k ≤ 2) := fun hh => by simp [within, hh.1, hh.2] at h
  cases rightP zs with
  | none => rfl
  | some p => exact if_neg this
theorem childAns_yes {C : Int → Int → Int → Int × Int} {zs : List Int} {k m n : Int} (h : rightP zs = some (m, n)) (hk : within 0 2 k = true) : childAns C zs k = tripAns (C m n k).1 (C m n k).2 := by
  unfold childAns
  rw [h]
  simp only [within, Bool.and_eq_true, decide_eq_true_eq] at hk
  exact if_pos hk
theorem parentAns_no {U : Int → Int → Int × Int × Int} {zs : List Int} (h : rightP zs = none) : parentAns U zs = none := by unfold parentAns; rw [h]; rfl
theorem parentAns_root {U : Int → Int → Int × Int × Int} {zs : List Int} {m n : Int} (h : rightP zs = some (m, n)) (hm : m ≤ 2) : parentAns U zs = none := by
  unfold parentAns; rw [h]; exact if_neg (by simp only; omega)
theorem parentAns_yes {U : Int → Int → Int × Int × Int} {zs : List Int} {m n : Int} (h : rightP zs = some (m, n)) (hm : 2 < m) : parentAns U zs = some (sidesL (U m n).1 (U m n).2.1, (U m n).2.2) := by
  unfold parentAns; rw [h]; exact if_pos hm
/-- 5 is the greatest side of the root alone. -/
theorem five_root {m n : Int} (h : Pair m n) : (m * m + n * n == 5) = decide (m ≤ 2) := by
  have h1 := h.h1
  have h2 := h.h2
  by_cases hm : m ≤ 2
  · obtain rfl : m = 2 := by omega
    obtain rfl : n = 1 := by omega
    rfl
  · have p : (3 : Int) * 3 ≤ m * m := Int.mul_le_mul (by omega) (by omega) (by omega) (by omega)
    have q : (0 : Int) ≤ n * n := Int.mul_nonneg (by omega) (by omega)
    rw [decide_eq_false hm, beq_eq_false_iff_ne]
    omega

theorem riGood_as (v : Value) (zs : List Int) (b : Bool) (hb : (rightP zs).isSome = b) (w : World) (h : Ints w v zs) :
    Calls Try.prog 67 #[v] w fun e w' => e = .returned (.bool b) ∧ Later w w' := by subst hb; exact riGood_any v zs w h
theorem riBack_right {zs : List Int} {m n : Int} (hr : rightP zs = some (m, n)) (v : Value) (w : World) (h : Ints w v zs) :
    Calls Try.prog 68 #[v] w fun e w' => e = .returned (.tuple #[.int .i64 m, .int .i64 n]) ∧ Later w w' := by
  have hl : zs.length = 3 := by obtain ⟨_, e⟩ := right_some hr; rw [e]; rfl
  obtain ⟨x, y, z, ad, cap, rfl, rfl, _⟩ := h.threeR hl
  obtain ⟨hp, hc, hxz, _⟩ := right_bounds hr
  obtain ⟨_, he⟩ := right_some hr
  obtain ⟨b1, b2⟩ := back_sides hp
  have hb : 1 ≤ x ∧ x ≤ 1000000000 ∧ z ≤ 1000000000 := by
    simp only [List.all_cons, List.all_nil, Bool.and_true, within, Bool.and_eq_true, decide_eq_true_eq] at hc
    omega
  refine (riBack_any x y z ad cap w ⟨hb.1, hb.2.1⟩ hb.2.2 hxz h).mono ?_
  rintro e w' ⟨rfl, hD⟩
  rw [he, b1, b2]
  exact ⟨rfl, hD.later⟩

set_option maxHeartbeats 1000000 in
theorem specPairOfRight_any (v : Value) (zs : List Int) (w : World) (h : Ints w v zs) :
    Calls Try.prog 16 #[v] w fun e w' => PairAns w (rightP zs) e w' := by
  have H := hid h
  cases hr : rightP zs with
  | none =>
    have HG := hid (riGood_as v zs false (by rw [hr]; rfl) w h)
    clear hr h
    go_enter Try.func16, Try.ntmps16
    go_wp2_with (go_at_call 67; refine HG.out.mono ?_; rintro e w1 ⟨rfl, hL⟩; have HL1 := hid hL; clear hL)
    go_ret3
    exact ⟨rfl, HL1.out⟩
  | some p =>
    obtain ⟨m, n⟩ := p
    have HG := hid (riGood_as v zs true (by rw [hr]; rfl) w h)
    have HB := hid (fun w0 h0 => riBack_right hr v w0 h0)
    clear hr h
    go_enter Try.func16, Try.ntmps16
    go_wp2_with (first | (go_at_call 67; refine HG.out.mono ?_; rintro e w1 ⟨rfl, hL⟩; have HL1 := hid hL; clear hL) | (go_at_call 68; refine (HB.out _ (H.out.later HL1.out)).mono ?_; rintro e w2 ⟨rfl, hL⟩; have HL2 := hid (HL1.out.trans hL); clear hL))
    go_ret3
    exact ⟨rfl, HL2.out⟩

set_option maxHeartbeats 1000000 in
theorem riBerg_any (m n k : Int) (w : World) (hm : -1000000 ≤ m ∧ m ≤ 1000000) (hn : -1000000 ≤ n ∧ n ≤ 1000000) :
    Calls Try.prog 78 #[.int .i64 m, .int .i64 n, .int .i64 k] w fun e w' => e = .returned (.tuple #[.int .i64 (bergC m n k).1, .int .i64 (bergC m n k).2]) ∧ w = w' := by
  obtain ⟨m1, m2⟩ := hm
  obtain ⟨n1, n2⟩ := hn
  by_cases h0 : k = 0
  · subst h0
    go_enter Try.func78, Try.ntmps78
    go_wp2_with fail
    go_ret2
    exact ⟨rfl, rfl⟩
  · have hb0 : (k == 0) = false := beq_eq_false_iff_ne.2 h0
    by_cases h1 : k = 1
    · subst h1
      go_enter Try.func78, Try.ntmps78
      go_wp2_with fail
      go_ret2
      exact ⟨rfl, rfl⟩
    · have hb1 : (k == 1) = false := beq_eq_false_iff_ne.2 h1
      have HE := hid (show bergC m n k = (m + 2 * n, n) by unfold bergC; rw [if_neg h0, if_neg h1])
      rw [HE.out]
      go_enter Try.func78, Try.ntmps78
      go_wp2_with fail
      go_ret2
      exact ⟨rfl, rfl⟩

set_option maxHeartbeats 1000000 in
theorem riBergUp_any (m n : Int) (w : World) (hp : Pair m n) :
    Calls Try.prog 92 #[.int .i64 m, .int .i64 n] w fun e w' => e = .returned (.tuple #[.int .i64 (bergU m n).1, .int .i64 (bergU m n).2.1, .int .i64 (bergU m n).2.2]) ∧ w = w' := by
  have h1 := hp.h1
  have h2 := hp.h2
  have h7 := hp.h7
  clear hp
  by_cases ha : m < 2 * n
  · have HE := hid (show bergU m n = (n, 2 * n - m, 0) by unfold bergU; rw [if_pos ha])
    rw [HE.out]
    have hd1 : decide (m < 2 * n) = true := decide_eq_true ha
    go_enter Try.func92, Try.ntmps92
    go_wp2_with fail
    go_ret3
    exact ⟨rfl, rfl⟩
  · by_cases hb : m < 3 * n
    · have HE := hid (show bergU m n = (n, m - 2 * n, 1) by unfold bergU; rw [if_neg ha, if_pos hb])
      rw [HE.out]
      have hd1 : decide (m < 2 * n) = false := decide_eq_false ha
      have hd2 : decide (m < 3 * n) = true := decide_eq_true hb
      go_enter Try.func92, Try.ntmps92
      go_wp2_with fail
      go_ret3
      exact ⟨rfl, rfl⟩
    · have HE := hid (show bergU m n = (m - 2 * n, n, 2) by unfold bergU; rw [if_neg ha, if_neg hb])
      rw [HE.out]
      have hd1 : decide (m < 2 * n) = false := decide_eq_false ha
      have hd2 : decide (m < 3 * n) = false := decide_eq_false hb
      go_enter Try.func92, Try.ntmps92
      go_wp2_with fail
      go_ret3
      exact ⟨rfl, rfl⟩

set_option maxHeartbeats 2000000 in
theorem specBergChild_any (v : Value) (zs : List Int) (k : Int) (w : World) (h : Ints w v zs) :
    Calls Try.prog 24 #[v, .int .i64 k] w fun e w' => IntsAns w (childAns bergC zs k) e w' := by
  have H := hid h
  cases hr : rightP zs with
  | none =>
    have HG := hid (riGood_as v zs false (by rw [hr]; rfl) w h)
    have HA := hid (childAns_no (C := bergC) (k := k) hr)
    clear hr h
    go_enter Try.func24, Try.ntmps24
    go_wp2_with (go_at_call 67; refine HG.out.mono ?_; rintro e w1 ⟨rfl, hL⟩; have HL1 := hid hL; clear hL)
    go_ret2
    rw [HA.out]
    exact ⟨_, rfl, ⟨World.ownsRow_nil _ _ _ _, fun b hb => by simp [Value.ownBlock] at hb⟩, HL1.out⟩
  | some p =>
    obtain ⟨m, n⟩ := p
    have HG := hid (riGood_as v zs true (by rw [hr]; rfl) w h)
    cases hk : within 0 2 k
    · have HA := hid (childAns_out (C := bergC) (zs := zs) hk)
      have HK := hid hk
      clear hr h hk
      go_enter Try.func24, Try.ntmps24
      go_wp2_with (first | (go_at_call 67; refine HG.out.mono ?_; rintro e w1 ⟨rfl, hL⟩; have HL1 := hid hL; clear hL) | (go_at_call 73; refine (l1In_as _ _ _ _ _ HK.out).mono ?_; rintro e w2 ⟨rfl, rfl⟩))
      go_ret2
      rw [HA.out]
      exact ⟨_, rfl, ⟨World.ownsRow_nil _ _ _ _, fun b hb => by simp [Value.ownBlock] at hb⟩, HL1.out⟩
    · have HA := hid (childAns_yes (C := bergC) hr hk)
      have HK := hid hk
      have HB := hid (fun w0 h0 => riBack_right hr v w0 h0)
      have hp := (right_some hr).1
      have HC := hid (fun w0 => riBerg_any m n k w0 (by have := hp.h1; have := hp.h2; have := hp.h7; omega) (by have := hp.h1; have := hp.h2; have := hp.h7; omega))
      obtain ⟨q1, hq1⟩ : ∃ q, (bergC m n k).1 = q := ⟨_, rfl⟩
      obtain ⟨q2, hq2⟩ : ∃ q, (bergC m n k).2 = q := ⟨_, rfl⟩
      rw [hq1, hq2] at HC HA
      clear hr h hk hp hq1 hq2
      go_enter Try.func24, Try.ntmps24
      go_wp2_with (first | (go_at_call 67; refine HG.out.mono ?_; rintro e w1 ⟨rfl, hL⟩; have HL1 := hid hL; clear hL) | (go_at_call 73; refine (l1In_as _ _ _ _ _ HK.out).mono ?_; rintro e w2 ⟨rfl, rfl⟩) | (go_at_call 68; refine (HB.out _ (H.out.later HL1.out)).mono ?_; rintro e w2 ⟨rfl, hL⟩; have HL2 := hid (HL1.out.trans hL); clear hL) | (go_at_call 78; refine (HC.out _).mono ?_; rintro e w3 ⟨rfl, rfl⟩) | (go_at_call 64; refine (riIf_any _ _ _).mono ?_; rintro e w4 ⟨v4, rfl, ho, hL⟩; have HO4 := hid ho; have HL4 := hid (HL2.out.trans hL); clear ho hL))
      go_ret2
      rw [HA.out]
      exact ⟨_, rfl, HO4.out.wide HL2.out.size (Nat.le_refl _), HL4.out⟩

set_option maxHeartbeats 2000000 in
theorem specBergParent_any (v : Value) (zs : List Int) (w : World) (h : Ints w v zs) :
    Calls Try.prog 34 #[v] w fun e w' => InAns w (parentAns bergU zs) e w' := by
  have H := hid h
  cases hr : rightP zs with
  | none =>
    have HG := hid (riGood_as v zs false (by rw [hr]; rfl) w h)
    have HA := hid (parentAns_no (U := bergU) hr)
    clear hr h
    go_enter Try.func34, Try.ntmps34
    go_wp2_with (go_at_call 67; refine HG.out.mono ?_; rintro e w1 ⟨rfl, hL⟩; have HL1 := hid hL; clear hL)
    go_ret3
    rw [HA.out]
    exact ⟨_, rfl, ⟨World.ownsRow_nil _ _ _ _, fun b hb => by simp [Value.ownBlock] at hb⟩, HL1.out⟩
  | some p =>
    obtain ⟨m, n⟩ := p
    have HG := hid (riGood_as v zs true (by rw [hr]; rfl) w h)
    have hp := (right_some hr).1
    have HP := hid hp
    obtain ⟨_, hzs⟩ := right_some hr
    have HB := hid (fun w0 h0 => riBack_right hr v w0 h0)
    have H5 := five_root hp
    obtain ⟨x, y, z, ad, cap, ez, rfl, _, _, c2⟩ := h.threeR (by rw [hzs]; rfl)
    have hz : z = m * m + n * n := by rw [ez] at hzs; unfold sidesL at hzs; simp only [List.cons.injEq] at hzs; exact hzs.2.2.1
    rw [← hz] at H5
    subst ez
    by_cases hm : m ≤ 2
    · have HA := hid (parentAns_root (U := bergU) hr hm)
      rw [decide_eq_true hm] at H5
      clear hr h hp hzs hm hz
      go_enter Try.func34, Try.ntmps34
      go_wp2_with (go_at_call 67; refine HG.out.mono ?_; rintro e w1 ⟨rfl, hL⟩; have HL1 := hid hL; replace c2 := hL.cell c2; clear hL)
      go_ret3
      rw [HA.out]
      exact ⟨_, rfl, ⟨World.ownsRow_nil _ _ _ _, fun b hb => by simp [Value.ownBlock] at hb⟩, HL1.out⟩
    · have HA := hid (parentAns_yes (U := bergU) hr (by omega))
      rw [decide_eq_false hm] at H5
      have HU := hid (fun w0 => riBergUp_any m n w0 hp)
      have HO := hid (fun w0 => riOf_any (bergU m n).1 (bergU m n).2.1 (treeBerg.up m n hp (by omega)).1 w0)
      obtain ⟨q1, hq1⟩ : ∃ q, (bergU m n).1 = q := ⟨_, rfl⟩
      obtain ⟨q2, hq2⟩ : ∃ q, (bergU m n).2.1 = q := ⟨_, rfl⟩
      obtain ⟨q3, hq3⟩ : ∃ q, (bergU m n).2.2 = q := ⟨_, rfl⟩
      rw [hq1, hq2] at HU HA HO
      rw [hq3] at HU HA
      clear hr h hp hzs hm hz hq1 hq2 hq3
      go_enter Try.func34, Try.ntmps34
      go_wp2_with (first | (go_at_call 67; refine HG.out.mono ?_; rintro e w1 ⟨rfl, hL⟩; have HL1 := hid hL; replace c2 := hL.cell c2; clear hL) | (go_at_call 68; refine (HB.out _ (H.out.later HL1.out)).mono ?_; rintro e w2 ⟨rfl, hL⟩; have HL2 := hid (HL1.out.trans hL); clear hL) | (go_at_call 92; refine (HU.out _).mono ?_; rintro e w3 ⟨rfl, rfl⟩) | (go_at_call 93; refine (HO.out _).mono ?_; rintro e w4 ⟨v4, rfl, ho, hL⟩; have HO4 := hid ho; have HL4 := hid (HL2.out.trans hL); clear ho hL))
      go_ret3
      rw [HA.out]
      exact ⟨_, rfl, HO4.out.wide HL2.out.size (Nat.le_refl _), HL4.out⟩

set_option maxHeartbeats 1000000 in
theorem riPrice_any (m n k : Int) (w : World) (hm : -1000000 ≤ m ∧ m ≤ 1000000) (hn : -1000000 ≤ n ∧ n ≤ 1000000) :
    Calls Try.prog 95 #[.int .i64 m, .int .i64 n, .int .i64 k] w fun e w' => e = .returned (.tuple #[.int .i64 (priceC m n k).1, .int .i64 (priceC m n k).2]) ∧ w = w' := by
  obtain ⟨m1, m2⟩ := hm
  obtain ⟨n1, n2⟩ := hn
  by_cases h0 : k = 0
  · subst h0
    go_enter Try.func95, Try.ntmps95
    go_wp2_with fail
    go_ret2
    exact ⟨rfl, rfl⟩
  · have hb0 : (k == 0) = false := beq_eq_false_iff_ne.2 h0
    by_cases h1 : k = 1
    · subst h1
      go_enter Try.func95, Try.ntmps95
      go_wp2_with fail
      go_ret2
      exact ⟨rfl, rfl⟩
    · have hb1 : (k == 1) = false := beq_eq_false_iff_ne.2 h1
      have HE := hid (show priceC m n k = (2 * m, m + n) by unfold priceC; rw [if_neg h0, if_neg h1])
      rw [HE.out]
      go_enter Try.func95, Try.ntmps95
      go_wp2_with fail
      go_ret2
      exact ⟨rfl, rfl⟩

set_option maxHeartbeats 1000000 in
theorem riPriceUp_any (m n : Int) (w : World) (hp : Pair m n) :
    Calls Try.prog 97 #[.int .i64 m, .int .i64 n] w fun e w' => e = .returned (.tuple #[.int .i64 (priceU m n).1, .int .i64 (priceU m n).2.1, .int .i64 (priceU m n).2.2]) ∧ w = w' := by
  have h1 := hp.h1
  have h2 := hp.h2
  have h7 := hp.h7
  clear hp
  by_cases ha : n % 2 = 0
  · have HE := hid (show priceU m n = (m - n / 2, n / 2, 0) by unfold priceU; rw [if_pos ha])
    rw [HE.out]
    have t1 : n.tmod 2 = n % 2 := Int.tmod_eq_emod_of_nonneg (by omega)
    have t2 : n.tdiv 2 = n / 2 := Int.tdiv_eq_ediv_of_nonneg (by omega)
    have t3 : m.tdiv 2 = m / 2 := Int.tdiv_eq_ediv_of_nonneg (by omega)
    have hd1 : (n % 2 == 0) = true := beq_iff_eq.2 ha
    go_enter Try.func97, Try.ntmps97
    go_wp2_with fail
    go_ret3
    exact ⟨rfl, rfl⟩
  · by_cases hb : 2 * n < m
    · have HE := hid (show priceU m n = (m / 2, m / 2 - n, 1) by unfold priceU; rw [if_neg ha, if_pos hb])
      rw [HE.out]
      have t1 : n.tmod 2 = n % 2 := Int.tmod_eq_emod_of_nonneg (by omega)
      have t2 : n.tdiv 2 = n / 2 := Int.tdiv_eq_ediv_of_nonneg (by omega)
      have t3 : m.tdiv 2 = m / 2 := Int.tdiv_eq_ediv_of_nonneg (by omega)
      have hd1 : (n % 2 == 0) = false := beq_eq_false_iff_ne.2 ha
      have hd2 : decide (2 * n < m) = true := decide_eq_true hb
      go_enter Try.func97, Try.ntmps97
      go_wp2_with fail
      go_ret3
      exact ⟨rfl, rfl⟩
    · have HE := hid (show priceU m n = (m / 2, n - m / 2, 2) by unfold priceU; rw [if_neg ha, if_neg hb])
      rw [HE.out]
      have t1 : n.tmod 2 = n % 2 := Int.tmod_eq_emod_of_nonneg (by omega)
      have t2 : n.tdiv 2 = n / 2 := Int.tdiv_eq_ediv_of_nonneg (by omega)
      have t3 : m.tdiv 2 = m / 2 := Int.tdiv_eq_ediv_of_nonneg (by omega)
      have hd1 : (n % 2 == 0) = false := beq_eq_false_iff_ne.2 ha
      have hd2 : decide (2 * n < m) = false := decide_eq_false hb
      go_enter Try.func97, Try.ntmps97
      go_wp2_with fail
      go_ret3
      exact ⟨rfl, rfl⟩

set_option maxHeartbeats 2000000 in
theorem specPriceChild_any (v : Value) (zs : List Int) (k : Int) (w : World) (h : Ints w v zs) :
    Calls Try.prog 37 #[v, .int .i64 k] w fun e w' => IntsAns w (childAns priceC zs k) e w' := by
  have H := hid h
  cases hr : rightP zs with
  | none =>
    have HG := hid (riGood_as v zs false (by rw [hr]; rfl) w h)
    have HA := hid (childAns_no (C := priceC) (k := k) hr)
    clear hr h
    go_enter Try.func37, Try.ntmps37
    go_wp2_with (go_at_call 67; refine HG.out.mono ?_; rintro e w1 ⟨rfl, hL⟩; have HL1 := hid hL; clear hL)
    go_ret2
    rw [HA.out]
    exact ⟨_, rfl, ⟨World.ownsRow_nil _ _ _ _, fun b hb => by simp [Value.ownBlock] at hb⟩, HL1.out⟩
  | some p =>
    obtain ⟨m, n⟩ := p
    have HG := hid (riGood_as v zs true (by rw [hr]; rfl) w h)
    cases hk : within 0 2 k
    · have HA := hid (childAns_out (C := priceC) (zs := zs) hk)
      have HK := hid hk
      clear hr h hk
      go_enter Try.func37, Try.ntmps37
      go_wp2_with (first | (go_at_call 67; refine HG.out.mono ?_; rintro e w1 ⟨rfl, hL⟩; have HL1 := hid hL; clear hL) | (go_at_call 73; refine (l1In_as _ _ _ _ _ HK.out).mono ?_; rintro e w2 ⟨rfl, rfl⟩))
      go_ret2
      rw [HA.out]
      exact ⟨_, rfl, ⟨World.ownsRow_nil _ _ _ _, fun b hb => by simp [Value.ownBlock] at hb⟩, HL1.out⟩
    · have HA := hid (childAns_yes (C := priceC) hr hk)
      have HK := hid hk
      have HB := hid (fun w0 h0 => riBack_right hr v w0 h0)
      have hp := (right_some hr).1
      have HC := hid (fun w0 => riPrice_any m n k w0 (by have := hp.h1; have := hp.h2; have := hp.h7; omega) (by have := hp.h1; have := hp.h2; have := hp.h7; omega))
      obtain ⟨q1, hq1⟩ : ∃ q, (priceC m n k).1 = q := ⟨_, rfl⟩
      obtain ⟨q2, hq2⟩ : ∃ q, (priceC m n k).2 = q := ⟨_, rfl⟩
      rw [hq1, hq2] at HC HA
      clear hr h hk hp hq1 hq2
      go_enter Try.func37, Try.ntmps37
      go_wp2_with (first | (go_at_call 67; refine HG.out.mono ?_; rintro e w1 ⟨rfl, hL⟩; have HL1 := hid hL; clear hL) | (go_at_call 73; refine (l1In_as _ _ _ _ _ HK.out).mono ?_; rintro e w2 ⟨rfl, rfl⟩) | (go_at_call 68; refine (HB.out _ (H.out.later HL1.out)).mono ?_; rintro e w2 ⟨rfl, hL⟩; have HL2 := hid (HL1.out.trans hL); clear hL) | (go_at_call 95; refine (HC.out _).mono ?_; rintro e w3 ⟨rfl, rfl⟩) | (go_at_call 64; refine (riIf_any _ _ _).mono ?_; rintro e w4 ⟨v4, rfl, ho, hL⟩; have HO4 := hid ho; have HL4 := hid (HL2.out.trans hL); clear ho hL))
      go_ret2
      rw [HA.out]
      exact ⟨_, rfl, HO4.out.wide HL2.out.size (Nat.le_refl _), HL4.out⟩

set_option maxHeartbeats 2000000 in
theorem specPriceParent_any (v : Value) (zs : List Int) (w : World) (h : Ints w v zs) :
    Calls Try.prog 44 #[v] w fun e w' => InAns w (parentAns priceU zs) e w' := by
  have H := hid h
  cases hr : rightP zs with
  | none =>
    have HG := hid (riGood_as v zs false (by rw [hr]; rfl) w h)
    have HA := hid (parentAns_no (U := priceU) hr)
    clear hr h
    go_enter Try.func44, Try.ntmps44
    go_wp2_with (go_at_call 67; refine HG.out.mono ?_; rintro e w1 ⟨rfl, hL⟩; have HL1 := hid hL; clear hL)
    go_ret3
    rw [HA.out]
    exact ⟨_, rfl, ⟨World.ownsRow_nil _ _ _ _, fun b hb => by simp [Value.ownBlock] at hb⟩, HL1.out⟩
  | some p =>
    obtain ⟨m, n⟩ := p
    have HG := hid (riGood_as v zs true (by rw [hr]; rfl) w h)
    have hp := (right_some hr).1
    have HP := hid hp
    obtain ⟨_, hzs⟩ := right_some hr
    have HB := hid (fun w0 h0 => riBack_right hr v w0 h0)
    have H5 := five_root hp
    obtain ⟨x, y, z, ad, cap, ez, rfl, _, _, c2⟩ := h.threeR (by rw [hzs]; rfl)
    have hz : z = m * m + n * n := by rw [ez] at hzs; unfold sidesL at hzs; simp only [List.cons.injEq] at hzs; exact hzs.2.2.1
    rw [← hz] at H5
    subst ez
    by_cases hm : m ≤ 2
    · have HA := hid (parentAns_root (U := priceU) hr hm)
      rw [decide_eq_true hm] at H5
      clear hr h hp hzs hm hz
      go_enter Try.func44, Try.ntmps44
      go_wp2_with (go_at_call 67; refine HG.out.mono ?_; rintro e w1 ⟨rfl, hL⟩; have HL1 := hid hL; replace c2 := hL.cell c2; clear hL)
      go_ret3
      rw [HA.out]
      exact ⟨_, rfl, ⟨World.ownsRow_nil _ _ _ _, fun b hb => by simp [Value.ownBlock] at hb⟩, HL1.out⟩
    · have HA := hid (parentAns_yes (U := priceU) hr (by omega))
      rw [decide_eq_false hm] at H5
      have HU := hid (fun w0 => riPriceUp_any m n w0 hp)
      have HO := hid (fun w0 => riOf_any (priceU m n).1 (priceU m n).2.1 (treePrice.up m n hp (by omega)).1 w0)
      obtain ⟨q1, hq1⟩ : ∃ q, (priceU m n).1 = q := ⟨_, rfl⟩
      obtain ⟨q2, hq2⟩ : ∃ q, (priceU m n).2.1 = q := ⟨_, rfl⟩
      obtain ⟨q3, hq3⟩ : ∃ q, (priceU m n).2.2 = q := ⟨_, rfl⟩
      rw [hq1, hq2] at HU HA HO
      rw [hq3] at HU HA
      clear hr h hp hzs hm hz hq1 hq2 hq3
      go_enter Try.func44, Try.ntmps44
      go_wp2_with (first | (go_at_call 67; refine HG.out.mono ?_; rintro e w1 ⟨rfl, hL⟩; have HL1 := hid hL; replace c2 := hL.cell c2; clear hL) | (go_at_call 68; refine (HB.out _ (H.out.later HL1.out)).mono ?_; rintro e w2 ⟨rfl, hL⟩; have HL2 := hid (HL1.out.trans hL); clear hL) | (go_at_call 97; refine (HU.out _).mono ?_; rintro e w3 ⟨rfl, rfl⟩) | (go_at_call 93; refine (HO.out _).mono ?_; rintro e w4 ⟨v4, rfl, ho, hL⟩; have HO4 := hid ho; have HL4 := hid (HL2.out.trans hL); clear ho hL))
      go_ret3
      rw [HA.out]
      exact ⟨_, rfl, HO4.out.wide HL2.out.size (Nat.le_refl _), HL4.out⟩
end Go.Proofs.Ytdahhcigphhfdac
