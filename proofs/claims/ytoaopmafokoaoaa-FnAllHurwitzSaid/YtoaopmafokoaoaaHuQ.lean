/- Equations of Hurwitz: other roots (the program). -/
import Derived.Test.YtoaopmafokoaoaaHuOP
import Derived.Test.YtoaopmafokoaoaaHuJK
namespace Go.Proofs.Ytoaopmafokoaoaa
open Go.RowKit

theorem erase_step (zs : List Int) (i k : Nat) (hk : k < zs.length) : (zs.take (k + 1)).eraseIdx i = if k = i then (zs.take k).eraseIdx i else (zs.take k).eraseIdx i ++ [zs[k]] := by
  have hl : (zs.take k).length = k := by rw [List.length_take]; omega
  rw [take_snoc zs k hk, List.eraseIdx_append, hl]
  by_cases h1 : i < k
  · rw [if_pos h1, if_neg (by omega)]
  · rw [if_neg h1, List.eraseIdx_of_length_le (show (zs.take k).length ≤ i by omega)]
    by_cases h2 : k = i
    · subst h2; rw [if_pos rfl]; simp
    · rw [if_neg h2, List.eraseIdx_of_length_le (show ([zs[k]]).length ≤ i - k by simp; omega)]
theorem erase_le {zs : List Int} (h : In5 zs) (i k : Nat) : prodL ((zs.take k).eraseIdx i) ≤ prodL (zs.eraseIdx i) ∧ 1 ≤ prodL ((zs.take k).eraseIdx i) := by
  refine ⟨?_, ((h.take k).erase i).pos⟩
  have e : zs.eraseIdx i = (zs.take k ++ zs.drop k).eraseIdx i := by rw [List.take_append_drop]
  rw [e, List.eraseIdx_append]
  have h1 := ((h.take k).erase i).pos
  split
  · rw [prodL_append]
    have h2 := (h.drop k).pos
    have := Int.mul_le_mul_of_nonneg_left h2 (show 0 ≤ prodL ((zs.take k).eraseIdx i) by omega)
    omega
  · rename_i hlt
    rw [List.eraseIdx_of_length_le (by omega)] at h1 ⊢
    rw [prodL_append]
    have h2 := ((h.drop k).erase (i - (zs.take k).length)).pos
    have := Int.mul_le_mul_of_nonneg_left h2 (show 0 ≤ prodL (zs.take k) by omega)
    omega
def partP (a : Int) (zs : List Int) (i k : Nat) : Int := a * prodL ((zs.take k).eraseIdx i)
theorem Sol.part_bd {zs : List Int} {a b : Int} (h : Sol zs a b) (i k : Nat) (hi : i < zs.length) : 1 ≤ partP a zs i k ∧ partP a zs i k ≤ 40000000050 := by
  have h1 := h.rest_bd i hi
  have h2 := erase_le h.in5 i k
  have ha := h.ha
  unfold restP at h1
  unfold partP
  have h3 := Int.mul_le_mul_of_nonneg_left h2.1 (show 0 ≤ a by omega)
  have h4 := Int.mul_le_mul ha.1 h2.2 (by omega) (by omega)
  omega
theorem part_zero (a : Int) (zs : List Int) (i : Nat) : partP a zs i 0 = a := by simp [partP, prodL_nil]
theorem part_skip (a : Int) (zs : List Int) (k : Nat) (hk : k < zs.length) : partP a zs k (k + 1) = partP a zs k k := by
  unfold partP; rw [erase_step zs k k hk, if_pos rfl]
theorem part_step (a : Int) (zs : List Int) (i k : Nat) (hk : k < zs.length) (h : k ≠ i) : partP a zs i (k + 1) = partP a zs i k * zs[k] := by
  unfold partP; rw [erase_step zs i k hk, if_neg h, prodL_snoc]; grind
theorem part_all (a : Int) (zs : List Int) (i k : Nat) (hk : zs.length ≤ k) : partP a zs i k = restP a zs i := by
  unfold partP restP; rw [take_all zs k hk]
theorem Arr4.at {w : World} {B : Nat} {x y z t : Int} (h : Arr4 w B x y z t) (i : Nat) (hi : i < 4) : w.cell? ⟨B, i, none⟩ = some (.int .i64 ((qL x y z t).getD i 0)) := by
  obtain ⟨g0, g1, g2, g3⟩ := qL_getD x y z t
  have h4 : i = 0 ∨ i = 1 ∨ i = 2 ∨ i = 3 := by omega
  rcases h4 with rfl | rfl | rfl | rfl
  · rw [g0]; exact h.c0
  · rw [g1]; exact h.c1
  · rw [g2]; exact h.c2
  · rw [g3]; exact h.c3

set_option maxRecDepth 20000 in
set_option maxHeartbeats 4000000 in
theorem otherRootS_any (x y z t a b : Int) (i : Nat) (w : World) (hi : i < qN t) (hS : Sol (qL x y z t) a b) :
    Calls Try.prog 113 #[.agg #[.int .i64 x, .int .i64 y, .int .i64 z, .int .i64 t], .int .i64 a, .int .i64 i] w fun e w' => e = .returned (.int .i64 (othL a (qL x y z t) i)) ∧ Later w w' := by
  have HS := hid hS
  have HIB := hid hi
  have hi4 : i < 4 := by have := qN_bd t; omega
  have HL := hid (Later.alloc w (.cells #[.int .i64 x, .int .i64 y, .int .i64 z, .int .i64 t] 69))
  have HA := hid (arr4_alloc w x y z t)
  obtain ⟨c0, c1, c2, c3⟩ := arr4_alloc w x y z t
  have hii : (i : Int) < 4 := by omega
  clear hS
  go_enter Try.func113, Try.ntmps113
  go_wp2_with fail
  generalize w.alloc (.cells #[.int .i64 x, .int .i64 y, .int .i64 z, .int .i64 t] 69) = w1 at c0 c1 c2 c3 HL HA ⊢
  refine (parts_any x y z t _).mono ?_
  rintro e w2 ⟨rfl, hL2⟩
  have HA2 := hid (HA.out.later hL2)
  have HI := hid (HA2.out.ints)
  have HL2 := hid (HL.out.trans hL2)
  have hn3 : (qN t : Int) ≤ 4 := by have := qN_bd t; omega
  have hn0 : (0 : Int) ≤ (qN t : Int) := by omega
  have HN := hid (qL_len x y z t)
  clear c0 c1 c2 c3 hL2 HL HA hi
  go_wp2_with fail
  obtain ⟨zs, hzs⟩ : ∃ zs, qL x y z t = zs := ⟨_, rfl⟩
  rw [hzs] at HI HN HS
  have HZ := hid hzs
  clear hzs
  obtain ⟨n, hn⟩ : ∃ n, qN t = n := ⟨_, rfl⟩
  rw [hn] at HI HN hn3 hn0 HIB ⊢
  clear hn
  have hin := HIB.out
  have hnl := HN.out
  go_loop [7, 15] (fun f j => ∃ (k : Nat), k ≤ n ∧ j = .int .i64 k ∧ f = .int .i64 (partP a zs i k)) (fun _ j => n - (intOf j).toNat)
  case atStart => exact ⟨0, Nat.zero_le _, rfl, by rw [part_zero]⟩
  case round =>
    obtain ⟨k, hk, rfl, rfl⟩ := hrel
    by_cases hlt : k < n
    · have hlz : k < zs.length := by omega
      obtain ⟨p, cap, e1, _, hc⟩ := HI.out
      simp only [Value.slice.injEq] at e1
      obtain ⟨rfl, _, rfl⟩ := e1
      obtain ⟨ad, e2, hcell⟩ := hc k hlz
      simp only [Option.some.injEq] at e2
      subst e2
      simp only [getD_at zs k hlz] at hcell
      rw [addr_add0] at hcell
      obtain ⟨u1, u2⟩ := getElem_in5 HS.out.in5 k hlz
      obtain ⟨b1, b2⟩ := HS.out.part_bd i k (by omega)
      have hb3 := HS.out.part_bd i (k + 1) (by omega)
      by_cases hki : k = i
      · have hkb : ((k : Int) != (i : Int)) = false := by simp [hki]
        have HSK := hid (show partP a zs i (k + 1) = partP a zs i k by rw [← hki]; exact part_skip a zs k hlz)
        clear hki hc hb3 hnl
        go_wp2_with fail
        go_round
        case rel => exact ⟨k + 1, hlt, by go_num, by rw [HSK.out]⟩
        case measure => simp [intOf]; omega
      · have hkb : ((k : Int) != (i : Int)) = true := by simp; omega
        have hsk := part_step a zs i k hlz hki
        rw [hsk] at hb3
        have HSK := hid hsk
        obtain ⟨b3, b4⟩ := hb3
        clear hki hc hsk hnl
        go_wp2_with fail
        go_round
        case rel => exact ⟨k + 1, hlt, by go_num, by rw [HSK.out]⟩
        case measure => simp [intOf]; omega
    · have hlast := part_all a zs i k (by omega)
      have hd := HA2.out.at i hi4
      rw [HZ.out] at hd
      have hrb := HS.out.rest_bd i (by omega)
      have hob := HS.out.oth_bd i (by omega)
      have hxb := HS.out.in5 (zs.getD i 0) (by simp [show i < zs.length by omega])
      rw [hlast]
      have HO := hid (show othL a zs i = restP a zs i - zs.getD i 0 from rfl)
      obtain ⟨u, hu⟩ : ∃ u, zs.getD i 0 = u := ⟨_, rfl⟩
      rw [hu] at hd hxb HO
      obtain ⟨rb1, rb2⟩ := hrb
      obtain ⟨xb1, xb2⟩ := hxb
      clear hu hob hlast hnl
      go_wp2_with fail
      go_ret
      exact ⟨ret_int (by rw [HZ.out, HO.out]), HL2.out⟩

set_option maxRecDepth 20000 in
theorem isFundamentalS_any (x y z t a b : Int) (w : World) (hS : Sol (qL x y z t) a b) :
    Calls Try.prog 67 #[.agg #[.int .i64 x, .int .i64 y, .int .i64 z, .int .i64 t], .int .i64 a] w fun e w' => e = .returned (.bool (lastB a (qL x y z t))) ∧ Later w w' := by
  have HS := hid hS
  have HL := hid (Later.alloc w (.cells #[.int .i64 x, .int .i64 y, .int .i64 z, .int .i64 t] 69))
  obtain ⟨c0, c1, c2, c3⟩ := arr4_alloc w x y z t
  have HG := hid (qL_getD x y z t).1
  obtain ⟨r, hr⟩ : ∃ r, othL a (qL x y z t) 0 = r := ⟨_, rfl⟩
  have HR := hid hr
  have HLB := hid (show lastB a (qL x y z t) = !(decide (1 ≤ r) && decide (r ≤ x - 1)) by unfold lastB; rw [HG.out, hr]; rfl)
  clear hS hr
  by_cases h1 : r < 1
  · have hd1 : decide (r < 1) = true := decide_eq_true h1
    have HF := hid (show lastB a (qL x y z t) = true by rw [HLB.out, decide_eq_false (show ¬ 1 ≤ r by omega)]; rfl)
    go_enter Try.func67, Try.ntmps67
    go_wp2_with fail
    generalize w.alloc (.cells #[.int .i64 x, .int .i64 y, .int .i64 z, .int .i64 t] 69) = w1 at c0 c1 c2 c3 HL ⊢
    refine (otherRootS_any x y z t a b 0 _ (by have := qN_bd t; omega) HS.out).mono ?_
    rintro e w2 ⟨rfl, hL2⟩
    rw [HR.out]
    replace c0 := hL2.cell c0
    have HL2 := hid (HL.out.trans hL2)
    clear hL2 HL c1 c2 c3
    go_wp2_with fail
    go_ret
    exact ⟨ret_bool HF.out.symm, HL2.out⟩
  · have hd1 : decide (r < 1) = false := decide_eq_false h1
    have HF := hid (show lastB a (qL x y z t) = decide (x ≤ r) by
      rw [HLB.out, decide_eq_true (show 1 ≤ r by omega)]
      by_cases h2 : x ≤ r
      · rw [decide_eq_true h2, decide_eq_false (show ¬ r ≤ x - 1 by omega)]; rfl
      · rw [decide_eq_false h2, decide_eq_true (show r ≤ x - 1 by omega)]; rfl)
    go_enter Try.func67, Try.ntmps67
    go_wp2_with fail
    generalize w.alloc (.cells #[.int .i64 x, .int .i64 y, .int .i64 z, .int .i64 t] 69) = w1 at c0 c1 c2 c3 HL ⊢
    refine (otherRootS_any x y z t a b 0 _ (by have := qN_bd t; omega) HS.out).mono ?_
    rintro e w2 ⟨rfl, hL2⟩
    rw [HR.out]
    replace c0 := hL2.cell c0
    have HL2 := hid (HL.out.trans hL2)
    clear hL2 HL c1 c2 c3
    go_wp2_with fail
    go_ret
    exact ⟨ret_bool HF.out.symm, HL2.out⟩

end Go.Proofs.Ytoaopmafokoaoaa
