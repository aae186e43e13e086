/- Contracts of MarkovMove. -/
import Derived.Test.YtdahhcigphhfdabMkO
namespace Go.Proofs.Ytdahhcigphhfdab
open Go.RowKit

theorem moveOpt_no {x y z : Int} {i : Nat} (h : 1000000000 < other3 x y z i) : moveOpt x y z i = none := by unfold moveOpt; rw [if_pos h]
theorem moveOpt_yes {x y z : Int} {i : Nat} (h : ¬ 1000000000 < other3 x y z i) : moveOpt x y z i = some (moveL x y z i) := by unfold moveOpt; rw [if_neg h]
theorem moveAns_no {zs : List Int} {i : Int} (h : ¬ (mkGoodW zs = true ∧ (0 ≤ i ∧ i ≤ 2))) : moveAns zs i = none := by unfold moveAns; rw [if_neg h]
theorem moveAns_yes {x y z : Int} {i : Nat} (hg : mkGoodW [x, y, z] = true) (hi : i ≤ 2) : moveAns [x, y, z] i = moveOpt x y z i := by
  unfold moveAns; rw [if_pos ⟨hg, by omega, by omega⟩]; rfl
theorem great_of_quo {a b q m n : Int} (hb : 1 ≤ b) (hq : 1000000000 / b = q) (h : q < a) (hm : m ≤ 1000000000) (hn : n = 3 * a * b - m) : 1000000000 < n := by
  have h1 : 1000000000 < a * b := by rw [← hq] at h; exact (Int.ediv_lt_iff_lt_mul (by omega)).1 h
  have h2 : 3 * a * b = 3 * (a * b) := by grind
  omega

set_option maxRecDepth 20000 in
set_option maxHeartbeats 4000000 in
theorem mkMove_any (x y z : Int) (i : Nat) (hi : i = 0 ∨ i = 1 ∨ i = 2) (ad : Addr) (cap : Nat) (w : World) (hx : 1 ≤ x ∧ x ≤ 1000000000) (hy : 1 ≤ y ∧ y ≤ 1000000000) (hz : 1 ≤ z ∧ z ≤ 1000000000)
    (c0 : w.cell? ad = some (.int .i64 x)) (c1 : w.cell? ⟨ad.block, ad.off + 1, none⟩ = some (.int .i64 y)) (c2 : w.cell? ⟨ad.block, ad.off + 2, none⟩ = some (.int .i64 z)) :
    Calls Try.prog 109 #[.slice (some ad) 3 cap, .int .i64 i] w fun e w' => IntsAns w (moveOpt x y z i) e w' := by
  rcases hi with rfl | rfl | rfl
  · obtain ⟨q, hq⟩ : ∃ q, 1000000000 / z = q := ⟨_, rfl⟩
    obtain ⟨n, hn⟩ : ∃ n, n = 3 * y * z - x := ⟨_, rfl⟩
    have hn3 := hid (show other3 x y z 0 = n from hn.symm)
    obtain ⟨p1, p2⟩ := mul_le18' (Cnt0.of hy) (Cnt0.of hz)
    have hqb : 0 ≤ q ∧ q ≤ 1000000000 := by rw [← hq]; exact ⟨Int.ediv_nonneg (by omega) (by omega), Int.ediv_le_self _ (by omega)⟩
    have q1 : (1000000000 : Int).tdiv z = q := by rw [← hq]; exact Int.tdiv_eq_ediv_of_nonneg (by omega)
    have qw : IntKind.i64.wrap q = q := by rw [IntWalk.i64_left]; exact IntWalk.wrap64_in _ (by omega)
    have w1 : IntKind.i64.wrap (3 * y) = 3 * y := by rw [IntWalk.i64_left]; exact IntWalk.wrap64_in _ (by omega)
    have w2 : IntKind.i64.wrap (3 * y * z) = 3 * y * z := by rw [IntWalk.i64_left]; exact IntWalk.wrap64_in _ (by omega)
    have w3 : IntKind.i64.wrap (3 * y * z - x) = n := by rw [hn, IntWalk.i64_left]; exact IntWalk.wrap64_in _ (by omega)
    have z0 : ¬ z = 0 := by omega
    have HGQ := hid (fun h => great_of_quo (n := n) hz.1 hq h hx.2 hn)
    have hnb := hid (show -1000000000 ≤ n by omega)
    clear hq hn hqb p1 p2
    by_cases hbig : q < y
    · have HA := hid (moveOpt_no (show 1000000000 < other3 x y z 0 by rw [hn3.out]; exact HGQ.out hbig))
      have hd : decide (q < y) = true := decide_eq_true hbig
      clear HGQ
      go_enter Try.func109, Try.ntmps109
      go_wp2_with fail
      go_quiet (fail)
      go_wp2_with fail
      go_ret2
      rw [HA.out]
      exact ⟨_, rfl, OwnInts.nothing _ _ _, Later.drewN _ _⟩
    · by_cases hbn : 1000000000 < n
      · have HA := hid (moveOpt_no (show 1000000000 < other3 x y z 0 by rw [hn3.out]; exact hbn))
        have hd : decide (q < y) = false := decide_eq_false hbig
        clear HGQ
        go_enter Try.func109, Try.ntmps109
        go_wp2_with fail
        go_quiet (fail)
        replace c0 := (Later.drewN w nq).cell c0
        replace c1 := (Later.drewN w nq).cell c1
        replace c2 := (Later.drewN w nq).cell c2
        go_wp2_with fail
        go_ret2
        rw [HA.out]
        exact ⟨_, rfl, OwnInts.nothing _ _ _, Later.drewN _ _⟩
      · have HA := hid (moveOpt_yes (show ¬ 1000000000 < other3 x y z 0 by rw [hn3.out]; exact hbn))
        have hd : decide (q < y) = false := decide_eq_false hbig
        clear HGQ
        go_enter Try.func109, Try.ntmps109
        go_wp2_with fail
        go_quiet (fail)
        replace c0 := (Later.drewN w nq).cell c0
        replace c1 := (Later.drewN w nq).cell c1
        replace c2 := (Later.drewN w nq).cell c2
        go_wp2_with fail
        refine (mkSort_any y z n _ (by omega) (by omega) (by have := hnb.out; omega)).mono ?_
        rintro e w2 ⟨v2, rfl, ho, hL⟩
        have HO := hid (ho.wide (Later.drewN w nq).size (Nat.le_refl _))
        have HL := hid ((Later.drewN w nq).trans hL)
        clear ho hL
        go_wp2_with fail
        go_ret2
        rw [HA.out]
        refine ⟨_, rfl, ?_, HL.out⟩
        have hh : ordL y z n = moveL x y z 0 := by rw [← hn3.out]; exact (ordL_rot0 (3 * y * z - x) y z)
        rw [Option.getD_some, ← hh]
        exact HO.out
  · obtain ⟨q, hq⟩ : ∃ q, 1000000000 / x = q := ⟨_, rfl⟩
    obtain ⟨n, hn⟩ : ∃ n, n = 3 * z * x - y := ⟨_, rfl⟩
    have hn3 := hid (show other3 x y z 1 = n from hn.symm)
    obtain ⟨p1, p2⟩ := mul_le18' (Cnt0.of hz) (Cnt0.of hx)
    have hqb : 0 ≤ q ∧ q ≤ 1000000000 := by rw [← hq]; exact ⟨Int.ediv_nonneg (by omega) (by omega), Int.ediv_le_self _ (by omega)⟩
    have q1 : (1000000000 : Int).tdiv x = q := by rw [← hq]; exact Int.tdiv_eq_ediv_of_nonneg (by omega)
    have qw : IntKind.i64.wrap q = q := by rw [IntWalk.i64_left]; exact IntWalk.wrap64_in _ (by omega)
    have w1 : IntKind.i64.wrap (3 * z) = 3 * z := by rw [IntWalk.i64_left]; exact IntWalk.wrap64_in _ (by omega)
    have w2 : IntKind.i64.wrap (3 * z * x) = 3 * z * x := by rw [IntWalk.i64_left]; exact IntWalk.wrap64_in _ (by omega)
    have w3 : IntKind.i64.wrap (3 * z * x - y) = n := by rw [hn, IntWalk.i64_left]; exact IntWalk.wrap64_in _ (by omega)
    have z0 : ¬ x = 0 := by omega
    have HGQ := hid (fun h => great_of_quo (n := n) hx.1 hq h hy.2 hn)
    have hnb := hid (show -1000000000 ≤ n by omega)
    clear hq hn hqb p1 p2
    by_cases hbig : q < z
    · have HA := hid (moveOpt_no (show 1000000000 < other3 x y z 1 by rw [hn3.out]; exact HGQ.out hbig))
      have hd : decide (q < z) = true := decide_eq_true hbig
      clear HGQ
      go_enter Try.func109, Try.ntmps109
      go_wp2_with fail
      go_quiet (fail)
      go_wp2_with fail
      go_ret2
      rw [HA.out]
      exact ⟨_, rfl, OwnInts.nothing _ _ _, Later.drewN _ _⟩
    · by_cases hbn : 1000000000 < n
      · have HA := hid (moveOpt_no (show 1000000000 < other3 x y z 1 by rw [hn3.out]; exact hbn))
        have hd : decide (q < z) = false := decide_eq_false hbig
        clear HGQ
        go_enter Try.func109, Try.ntmps109
        go_wp2_with fail
        go_quiet (fail)
        replace c0 := (Later.drewN w nq).cell c0
        replace c1 := (Later.drewN w nq).cell c1
        replace c2 := (Later.drewN w nq).cell c2
        go_wp2_with fail
        go_ret2
        rw [HA.out]
        exact ⟨_, rfl, OwnInts.nothing _ _ _, Later.drewN _ _⟩
      · have HA := hid (moveOpt_yes (show ¬ 1000000000 < other3 x y z 1 by rw [hn3.out]; exact hbn))
        have hd : decide (q < z) = false := decide_eq_false hbig
        clear HGQ
        go_enter Try.func109, Try.ntmps109
        go_wp2_with fail
        go_quiet (fail)
        replace c0 := (Later.drewN w nq).cell c0
        replace c1 := (Later.drewN w nq).cell c1
        replace c2 := (Later.drewN w nq).cell c2
        go_wp2_with fail
        refine (mkSort_any z x n _ (by omega) (by omega) (by have := hnb.out; omega)).mono ?_
        rintro e w2 ⟨v2, rfl, ho, hL⟩
        have HO := hid (ho.wide (Later.drewN w nq).size (Nat.le_refl _))
        have HL := hid ((Later.drewN w nq).trans hL)
        clear ho hL
        go_wp2_with fail
        go_ret2
        rw [HA.out]
        refine ⟨_, rfl, ?_, HL.out⟩
        have hh : ordL z x n = moveL x y z 1 := by rw [← hn3.out]; exact ((ordL_swap1 x z (3 * z * x - y)).trans (ordL_swap2 x (3 * z * x - y) z))
        rw [Option.getD_some, ← hh]
        exact HO.out
  · obtain ⟨q, hq⟩ : ∃ q, 1000000000 / y = q := ⟨_, rfl⟩
    obtain ⟨n, hn⟩ : ∃ n, n = 3 * x * y - z := ⟨_, rfl⟩
    have hn3 := hid (show other3 x y z 2 = n from hn.symm)
    obtain ⟨p1, p2⟩ := mul_le18' (Cnt0.of hx) (Cnt0.of hy)
    have hqb : 0 ≤ q ∧ q ≤ 1000000000 := by rw [← hq]; exact ⟨Int.ediv_nonneg (by omega) (by omega), Int.ediv_le_self _ (by omega)⟩
    have q1 : (1000000000 : Int).tdiv y = q := by rw [← hq]; exact Int.tdiv_eq_ediv_of_nonneg (by omega)
    have qw : IntKind.i64.wrap q = q := by rw [IntWalk.i64_left]; exact IntWalk.wrap64_in _ (by omega)
    have w1 : IntKind.i64.wrap (3 * x) = 3 * x := by rw [IntWalk.i64_left]; exact IntWalk.wrap64_in _ (by omega)
    have w2 : IntKind.i64.wrap (3 * x * y) = 3 * x * y := by rw [IntWalk.i64_left]; exact IntWalk.wrap64_in _ (by omega)
    have w3 : IntKind.i64.wrap (3 * x * y - z) = n := by rw [hn, IntWalk.i64_left]; exact IntWalk.wrap64_in _ (by omega)
    have z0 : ¬ y = 0 := by omega
    have HGQ := hid (fun h => great_of_quo (n := n) hy.1 hq h hz.2 hn)
    have hnb := hid (show -1000000000 ≤ n by omega)
    clear hq hn hqb p1 p2
    by_cases hbig : q < x
    · have HA := hid (moveOpt_no (show 1000000000 < other3 x y z 2 by rw [hn3.out]; exact HGQ.out hbig))
      have hd : decide (q < x) = true := decide_eq_true hbig
      clear HGQ
      go_enter Try.func109, Try.ntmps109
      go_wp2_with fail
      go_quiet (fail)
      go_wp2_with fail
      go_ret2
      rw [HA.out]
      exact ⟨_, rfl, OwnInts.nothing _ _ _, Later.drewN _ _⟩
    · by_cases hbn : 1000000000 < n
      · have HA := hid (moveOpt_no (show 1000000000 < other3 x y z 2 by rw [hn3.out]; exact hbn))
        have hd : decide (q < x) = false := decide_eq_false hbig
        clear HGQ
        go_enter Try.func109, Try.ntmps109
        go_wp2_with fail
        go_quiet (fail)
        replace c0 := (Later.drewN w nq).cell c0
        replace c1 := (Later.drewN w nq).cell c1
        replace c2 := (Later.drewN w nq).cell c2
        go_wp2_with fail
        go_ret2
        rw [HA.out]
        exact ⟨_, rfl, OwnInts.nothing _ _ _, Later.drewN _ _⟩
      · have HA := hid (moveOpt_yes (show ¬ 1000000000 < other3 x y z 2 by rw [hn3.out]; exact hbn))
        have hd : decide (q < x) = false := decide_eq_false hbig
        clear HGQ
        go_enter Try.func109, Try.ntmps109
        go_wp2_with fail
        go_quiet (fail)
        replace c0 := (Later.drewN w nq).cell c0
        replace c1 := (Later.drewN w nq).cell c1
        replace c2 := (Later.drewN w nq).cell c2
        go_wp2_with fail
        refine (mkSort_any x y n _ (by omega) (by omega) (by have := hnb.out; omega)).mono ?_
        rintro e w2 ⟨v2, rfl, ho, hL⟩
        have HO := hid (ho.wide (Later.drewN w nq).size (Nat.le_refl _))
        have HL := hid ((Later.drewN w nq).trans hL)
        clear ho hL
        go_wp2_with fail
        go_ret2
        rw [HA.out]
        refine ⟨_, rfl, ?_, HL.out⟩
        have hh : ordL x y n = moveL x y z 2 := by rw [← hn3.out]; exact rfl
        rw [Option.getD_some, ← hh]
        exact HO.out

theorem isTripleIndex_any (i : Int) (w : World) : Calls Try.prog 104 #[.int .i64 i] w fun e w' => e = .returned (.bool (within 0 2 i)) ∧ w = w' := by
  by_cases h1 : 0 ≤ i
  · go_enter Try.func104, Try.ntmps104
    go_wp2
    go_ret
    exact ⟨ret_bool (by simp only [within, decide_eq_true h1, Bool.true_and]; exact decide_eq_decide.2 (by omega)), rfl⟩
  · have hb : decide (0 ≤ i) = false := by simpa using h1
    go_enter Try.func104, Try.ntmps104
    go_wp2
    go_ret
    exact ⟨ret_bool (by symm; simp only [within, Bool.and_eq_false_iff, decide_eq_false_iff_not]; omega), rfl⟩
theorem isTripleIndex_as (i : Int) (b : Bool) (w : World) (h : within 0 2 i = b) : Calls Try.prog 104 #[.int .i64 i] w fun e w' => e = .returned (.bool b) ∧ w = w' := by
  subst h; exact isTripleIndex_any i w

set_option maxHeartbeats 1000000 in
theorem specMarkovMove_any (v : Value) (zs : List Int) (i : Int) (w : World) (h : Ints w v zs) :
    Calls Try.prog 44 #[v, .int .i64 i] w fun e w' => IntsAns w (moveAns zs i) e w' := by
  cases hg : mkGoodW zs
  · have HA := hid (moveAns_no (zs := zs) (i := i) (by simp [hg]))
    have HG := hid hg
    have H := hid h
    obtain ⟨a, cap, rfl, hl, _⟩ := id h
    clear hg h
    go_enter Try.func44, Try.ntmps44
    go_wp2_with fail
    refine (mkGood_as _ zs false _ HG.out H.out).mono ?_
    rintro e w' ⟨rfl, n, rfl⟩
    go_wp2_with fail
    go_ret2
    rw [HA.out]
    exact ⟨_, rfl, OwnInts.nothing _ _ _, Later.drewN _ _⟩
  · obtain ⟨x, y, z, rfl, hx, hy, hz, hxy, hyz, he⟩ := mkGoodW_three hg
    obtain ⟨x', y', z', ad, cap, e1, rfl, c0, c1, c2⟩ := h.three rfl
    simp only [List.cons.injEq, and_true] at e1
    obtain ⟨rfl, rfl, rfl⟩ := e1
    have HG := hid hg
    have H := hid h
    by_cases hi : 0 ≤ i ∧ i ≤ 2
    · obtain ⟨j, rfl⟩ : ∃ j : Nat, i = (j : Int) := ⟨i.toNat, by omega⟩
      have HA := hid (moveAns_yes hg (show j ≤ 2 by omega))
      have HW := hid (show within 0 2 (j : Int) = true by simp [within]; omega)
      have hj : j = 0 ∨ j = 1 ∨ j = 2 := by omega
      clear hg h he hi
      go_enter Try.func44, Try.ntmps44
      go_wp2_with fail
      refine (mkGood_as (.slice (some ad) 3 cap) [x, y, z] true _ HG.out H.out).mono ?_
      rintro e w' ⟨rfl, n, rfl⟩
      go_wp2_with fail
      refine (l1In_as _ 0 2 true _ HW.out).mono ?_
      rintro e w' ⟨rfl, rfl⟩
      go_wp2_with fail
      refine (mkMove_any x y z j hj ad cap _ hx hy hz ((Later.drewN w n).cell c0) ((Later.drewN w n).cell c1) ((Later.drewN w n).cell c2)).mono ?_
      rintro e w2 ⟨v2, rfl, ho, hL⟩
      obtain ⟨a2, cap2, rfl, _⟩ := ho.shape
      have HO := hid (ho.wide (Later.drewN w n).size (Nat.le_refl _))
      have HL := hid ((Later.drewN w n).trans hL)
      clear ho hL hj
      go_wp2_with fail
      go_ret2
      rw [HA.out]
      exact ⟨_, rfl, HO.out, HL.out⟩
    · have HA := hid (moveAns_no (zs := [x, y, z]) (i := i) (fun h => hi h.2))
      have HW := hid (show within 0 2 i = false by simp only [within, Bool.and_eq_false_iff, decide_eq_false_iff_not]; omega)
      clear hg h he hi
      go_enter Try.func44, Try.ntmps44
      go_wp2_with fail
      refine (mkGood_as (.slice (some ad) 3 cap) [x, y, z] true _ HG.out H.out).mono ?_
      rintro e w' ⟨rfl, n, rfl⟩
      go_wp2_with fail
      refine (l1In_as _ 0 2 false _ HW.out).mono ?_
      rintro e w' ⟨rfl, rfl⟩
      go_wp2_with fail
      go_ret2
      rw [HA.out]
      exact ⟨_, rfl, OwnInts.nothing _ _ _, Later.drewN _ _⟩

/-- the greatest number of a moved triple is too great just if the new one is -/
theorem moveL_great {x y z p q r : Int} {i : Nat} (hi : i = 0 ∨ i = 1 ∨ i = 2) (hx : 1 ≤ x ∧ x ≤ 1000000000) (hy : 1 ≤ y ∧ y ≤ 1000000000) (hz : 1 ≤ z ∧ z ≤ 1000000000) (h : moveL x y z i = [p, q, r]) :
    1000000000 < high3 p q r ↔ 1000000000 < other3 x y z i := by
  have h2 := high3_spec p q r
  rcases hi with rfl | rfl | rfl
  all_goals
    simp only [moveL, ordL, mid3, List.cons.injEq, and_true] at h
    simp only [other3]
  · have := low3_spec (3 * y * z - x) y z
    have := high3_spec (3 * y * z - x) y z
    omega
  · have := low3_spec x (3 * z * x - y) z
    have := high3_spec x (3 * z * x - y) z
    omega
  · have := low3_spec x y (3 * x * y - z)
    have := high3_spec x y (3 * x * y - z)
    omega

set_option maxRecDepth 20000 in
set_option maxHeartbeats 2000000 in
theorem implMarkovMove_any (v : Value) (zs : List Int) (i : Int) (w : World) (h : Ints w v zs) :
    Calls Try.prog 43 #[v, .int .i64 i] w fun e w' => IntsAns w (moveAns zs i) e w' := by
  cases hg : mkGoodW zs
  · have HA := hid (moveAns_no (zs := zs) (i := i) (by simp [hg]))
    have HG := hid hg
    have H := hid h
    obtain ⟨a, cap, rfl, hl, _⟩ := id h
    clear hg h
    go_enter Try.func43, Try.ntmps43
    go_wp2_with fail
    refine (implIsMarkov_any _ zs _ H.out).mono ?_
    rintro e w' ⟨rfl, hL⟩
    rw [HG.out]
    have HL := hid hL
    clear hL
    go_wp2_with fail
    go_ret2
    rw [HA.out]
    exact ⟨_, rfl, OwnInts.nothing _ _ _, HL.out⟩
  · obtain ⟨x, y, z, rfl, hx, hy, hz, hxy, hyz, he⟩ := mkGoodW_three hg
    obtain ⟨x', y', z', ad, cap, e1, rfl, c0, c1, c2⟩ := h.three rfl
    simp only [List.cons.injEq, and_true] at e1
    obtain ⟨rfl, rfl, rfl⟩ := e1
    have HG := hid hg
    have H := hid h
    have ha := arrayAt3 ad cap
    by_cases hi : 0 ≤ i ∧ i ≤ 2
    · obtain ⟨j, rfl⟩ : ∃ j : Nat, i = (j : Int) := ⟨i.toNat, by omega⟩
      have HA := hid (moveAns_yes hg (show j ≤ 2 by omega))
      have HW := hid (show within 0 2 (j : Int) = true by simp [within]; omega)
      have hj : j = 0 ∨ j = 1 ∨ j = 2 := by omega
      clear hg h he hi
      go_enter Try.func43, Try.ntmps43
      go_wp2_with fail
      refine (implIsMarkov_any (.slice (some ad) 3 cap) [x, y, z] _ H.out).mono ?_
      rintro e w2 ⟨rfl, hL⟩
      rw [HG.out]
      replace c0 := hL.cell c0
      replace c1 := hL.cell c1
      replace c2 := hL.cell c2
      have HL := hid hL
      clear hL
      go_wp2_with fail
      refine (isTripleIndex_as _ true _ HW.out).mono ?_
      rintro e w' ⟨rfl, rfl⟩
      go_wp2_with fail
      refine (moved_any x y z j hj _ (Cnt0.of hx) (Cnt0.of hy) (Cnt0.of hz)).mono ?_
      rintro e w4 ⟨p, q, r, hpqr, rfl, hL⟩
      have HP := hid hpqr
      have HL4 := hid (HL.out.trans hL)
      have HGR := hid (moveL_great hj hx hy hz hpqr)
      clear hL c0 c1 c2 hpqr hj
      go_wp2_with fail
      have t0 : (w4.alloc (.cells #[.int .i64 p, .int .i64 q, .int .i64 r] 106)).cell? ⟨w4.heap.size, 0, none⟩ = some (.int .i64 p) := by simp [go_sem]
      have t1 : (w4.alloc (.cells #[.int .i64 p, .int .i64 q, .int .i64 r] 106)).cell? ⟨w4.heap.size, 1, none⟩ = some (.int .i64 q) := by simp [go_sem]
      have t2 : (w4.alloc (.cells #[.int .i64 p, .int .i64 q, .int .i64 r] 106)).cell? ⟨w4.heap.size, 2, none⟩ = some (.int .i64 r) := by simp [go_sem]
      have HL5 := hid (HL4.out.trans (Later.alloc w4 (.cells #[.int .i64 p, .int .i64 q, .int .i64 r] 106)))
      generalize w4.alloc (.cells #[.int .i64 p, .int .i64 q, .int .i64 r] 106) = w5 at t0 t1 t2 HL5 ⊢
      refine (greatest_any p q r _).mono ?_
      rintro e w6 ⟨rfl, hL⟩
      replace t0 := hL.cell t0
      replace t1 := hL.cell t1
      replace t2 := hL.cell t2
      have HL6 := hid (HL5.out.trans hL)
      clear hL
      by_cases hb : 1000000000 < high3 p q r
      · have HO := hid (moveOpt_no (HGR.out.1 hb))
        have hd : decide (1000000000 < high3 p q r) = true := decide_eq_true hb
        go_wp2_with fail
        go_ret2
        rw [HA.out, HO.out]
        exact ⟨_, rfl, OwnInts.nothing _ _ _, HL6.out⟩
      · have HO := hid (moveOpt_yes (fun h => hb (HGR.out.2 h)))
        have hd : decide (1000000000 < high3 p q r) = false := decide_eq_false hb
        go_wp2_with fail
        refine (list_any p q r _).mono ?_
        rintro e w7 ⟨v7, rfl, ho, hL⟩
        have HO7 := hid (ho.wide HL6.out.size (Nat.le_refl _))
        have HL7 := hid (HL6.out.trans hL)
        clear hL ho
        go_wp2_with fail
        go_ret2
        rw [HA.out, HO.out]
        refine ⟨_, rfl, ?_, HL7.out⟩
        rw [Option.getD_some, HP.out]
        exact HO7.out
    · have HA := hid (moveAns_no (zs := [x, y, z]) (i := i) (fun h => hi h.2))
      have HW := hid (show within 0 2 i = false by simp only [within, Bool.and_eq_false_iff, decide_eq_false_iff_not]; omega)
      clear hg h he hi
      go_enter Try.func43, Try.ntmps43
      go_wp2_with fail
      refine (implIsMarkov_any (.slice (some ad) 3 cap) [x, y, z] _ H.out).mono ?_
      rintro e w2 ⟨rfl, hL⟩
      rw [HG.out]
      have HL := hid hL
      clear hL
      go_wp2_with fail
      refine (isTripleIndex_as _ false _ HW.out).mono ?_
      rintro e w' ⟨rfl, rfl⟩
      go_wp2_with fail
      go_ret2
      rw [HA.out]
      exact ⟨_, rfl, OwnInts.nothing _ _ _, HL.out⟩
end Go.Proofs.Ytdahhcigphhfdab
