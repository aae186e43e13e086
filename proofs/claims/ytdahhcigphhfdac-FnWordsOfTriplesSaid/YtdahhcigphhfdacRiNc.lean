/- Words of ranks: the model. -/
import Derived.Test.YtdahhcigphhfdacRiNb
namespace Go.Proofs.Ytdahhcigphhfdac
open Go.RowKit

/-- The row while it is filled from its end: j digits stand. -/
def rowR (n : Nat) (pre : List Int) : List Int := List.replicate (n - pre.length) 0 ++ pre.reverse
theorem rowR_len (n : Nat) (pre : List Int) (h : pre.length ≤ n) : (rowR n pre).length = n := by unfold rowR; simp; omega
theorem rowR_set (n : Nat) (pre : List Int) (z : Int) (q : Nat) (h : q + 1 + pre.length = n) : (rowR n pre).set q z = rowR n (pre ++ [z]) := by
  unfold rowR
  rw [List.set_append_left _ _ (by simp; omega), show n - pre.length = q + 1 by omega, List.replicate_succ', List.set_append_right _ _ (by simp), List.length_append, List.length_singleton, show n - (pre.length + 1) = q by omega]
  simp
theorem wrAns_yes {r n : Nat} (h1 : shortN n ≤ r) (h2 : r < shortN (n + 1)) (h3 : r < 581130733) : wrAns (r : Int) = some (lowL n (r - shortN n)).reverse := by
  have hn : n ≤ 18 := by
    apply Nat.le_of_not_gt
    intro h
    have := short_le (show 19 ≤ n by omega)
    rw [short19] at this
    omega
  unfold wrAns
  rw [if_pos (by omega), Int.toNat_natCast, dig_len h1 h2 (by omega)]

set_option maxRecDepth 20000 in
set_option maxHeartbeats 4000000 in
theorem specWordOfRank_any (r : Int) (w : World) :
    Calls Try.prog 59 #[.int .i64 r] w fun e w' => IntsAns w (wrAns r) e w' := by
  obtain ⟨ii, hii, ii0, ii1, ii2⟩ := info_parts Try.infoInt
  obtain ⟨P, hP⟩ : ∃ P : Int, 1162261467 = P := ⟨_, rfl⟩
  obtain ⟨Q, hQ⟩ : ∃ Q : Int, 581130733 = Q := ⟨_, rfl⟩
  have H19 := hid (fun w0 => show Calls Try.prog 104 #[.int .i64 19] w0 fun e w' => e = .returned (.int .i64 P) ∧ w0 = w' from by rw [← hP]; exact riPower_as 19 1162261467 (by omega) (by decide) w0)
  have hPQ : (P - 1).tdiv 2 = Q := by rw [Int.tdiv_eq_ediv_of_nonneg (by omega)]; omega
  have hPb : 1 ≤ P ∧ P ≤ 2000000000 := by omega
  have hQb : 1 ≤ Q ∧ Q ≤ 2000000000 := by omega
  obtain ⟨pb1, pb2⟩ := hPb
  obtain ⟨qb1, qb2⟩ := hQb
  by_cases h0 : r < 0
  · have HA := hid (show wrAns r = none by unfold wrAns; rw [if_neg (by omega)])
    go_enter Try.func59, Try.ntmps59
    go_wp2_with fail
    go_ret2
    rw [HA.out]
    exact ⟨_, rfl, ⟨World.ownsRow_nil _ _ _ _, fun b hb => by simp [Value.ownBlock] at hb⟩, Later.refl _⟩
  · by_cases h1 : r < 581130733
    · obtain ⟨R, rfl⟩ : ∃ R : Nat, r = (R : Int) := ⟨r.toNat, by omega⟩
      have hR : R < 581130733 := by omega
      have HR := hid hR
      have h2 : ¬ Q ≤ (R : Int) := by omega
      have h2d : decide (Q ≤ (R : Int)) = false := decide_eq_false h2
      have hRb : (R : Int) ≤ 1000000000 := by omega
      clear hP hQ
      clear hR h1 h0
      have hd0 : decide ((R : Int) < 0) = false := decide_eq_false (by omega)
      go_enter Try.func59, Try.ntmps59
      go_wp2_with (go_at_call 104; refine (H19.out _).mono ?_; rintro e w1 ⟨rfl, rfl⟩)
      go_loop [4] (fun o4 => ∃ n : Nat, o4 = .int .i64 n ∧ n ≤ 18 ∧ shortN n ≤ R) (fun o4 => 20 - (intOf o4).toNat)
      case atStart => exact ⟨0, rfl, by omega, by simp [shortN]⟩
      case round =>
        obtain ⟨n, rfl, hn, hs⟩ := hrel
        have HS := hid hs
        obtain ⟨S, hS⟩ : ∃ S, shortN (n + 1) = S := ⟨_, rfl⟩
        have hP : 3 ^ (n + 1) = 2 * S + 1 := by rw [short_pow, hS]
        have hSb : S ≤ 3000000000 := by have := pow3_le (show n + 1 ≤ 20 by omega); omega
        have HPW := hid (fun w0 => show Calls Try.prog 104 #[.int .i64 ((n : Int) + 1)] w0 fun e w' => e = .returned (.int .i64 ((2 * S + 1 : Nat) : Int)) ∧ w0 = w' from riPower_as (n + 1) (2 * S + 1) (by omega) hP w0)
        have hq : (((2 * S + 1 : Nat) : Int) - 1).tdiv 2 = (S : Int) := by rw [Int.tdiv_eq_ediv_of_nonneg (by omega)]; omega
        have HSS := hid hS
        clear hs hS hP
        by_cases hc : S ≤ R
        · have HN := hid (show n + 1 ≤ 18 by
            apply Nat.le_of_not_gt
            intro hgt
            have h18 : n = 18 := by omega
            have := HSS.out
            rw [h18, short19] at this
            have := HR.out
            omega)
          have hci : (S : Int) ≤ (R : Int) := by omega
          go_wp2_with (go_at_call 104; refine (HPW.out _).mono ?_; rintro e w1 ⟨rfl, rfl⟩)
          go_round
          case rel => exact ⟨n + 1, by go_num, HN.out, by rw [HSS.out]; exact hc⟩
          case measure => simp [intOf]; omega
        · have hci : ¬ (S : Int) ≤ (R : Int) := by omega
          obtain ⟨S0, hS0⟩ : ∃ S, shortN n = S := ⟨_, rfl⟩
          have hP0 : 3 ^ n = 2 * S0 + 1 := by rw [short_pow, hS0]
          have HPW0 := hid (fun w0 => riPower_as n (2 * S0 + 1) (by omega) hP0 w0)
          have hq0 : (((2 * S0 + 1 : Nat) : Int) - 1).tdiv 2 = (S0 : Int) := by rw [Int.tdiv_eq_ediv_of_nonneg (by omega)]; omega
          have hS0R : S0 ≤ R := by rw [← hS0]; exact HS.out
          obtain ⟨X, hX⟩ : ∃ X : Nat, R - S0 = X := ⟨_, rfl⟩
          have hXi : (R : Int) - (S0 : Int) = (X : Int) := by omega
          have HA := hid (show wrAns (R : Int) = some (lowL n X).reverse by rw [← hX, ← hS0]; exact wrAns_yes HS.out (by rw [HSS.out]; omega) HR.out)
          have hXb : X ≤ 1000000000 := by omega
          have hni : (n : Int) ≤ 18 := by omega
          have hn0 : (0 : Int) ≤ (n : Int) := by omega
          have hSb0 : S0 ≤ 3000000000 := by omega
          clear hS0 hP0 hX HSS HS
          go_wp2_with fail
          refine (HPW.out _).mono ?_
          rintro e w1 ⟨rfl, rfl⟩
          go_wp2_with fail
          refine (HPW0.out _).mono ?_
          rintro e w1 ⟨rfl, rfl⟩
          go_wp2_with (first | (at_make; refine wpList_make_full _ rfl _ _ 26 rfl w.heap.size 3 ii (.int .i64 0) 1 Try.underlying26 hii ii0 ii1 _ _ _ _ n rfl rfl rfl rfl ?b2 ?b3 ?b4 ?_))
          case b2 => rw [ii2]; omega
          case b3 => unfold maxLen; omega
          case b4 => exact Nat.le_refl _
          intro w5 hown hgrow
          have hL5 : Later w w5 := (Below.refl _ _).grown hgrow (Nat.le_refl _) (by simp)
          have HOW : Hid (w5.ownsRow w.heap.size 3 1 (.slice (some ⟨w.heap.size, 0, none⟩) n n) n ((rowR n []).map (Value.int .i64))) := hid (by
            have e : (rowR n []).map (Value.int .i64) = (madeCells #[Value.int .i64 0] n).toList := by rw [toList_madeCells_one]; simp [rowR]
            rw [e]; exact hown)
          have HL5 := hid hL5
          clear hown hgrow hL5
          go_wp2_with fail
          go_loopw [5, 7] (fun o5 o7 wr => ∃ (q y : Nat) (pre : List Int), o7 = .int .i64 ((q : Int) - 1) ∧ o5 = .int .i64 y ∧ y ≤ 1000000000 ∧ q + pre.length = n ∧ pre ++ lowL q y = lowL n X ∧ wr.ownsRow w.heap.size 3 1 (.slice (some ⟨w.heap.size, 0, none⟩) n n) n ((rowR n pre).map (Value.int .i64)) ∧ Later w wr) (fun _ o7 _ => (intOf o7 + 1).toNat)
          case atStart => exact ⟨n, X, [], rfl, by first | rfl | (rw [hXi]), by omega, rfl, rfl, HOW.out, HL5.out⟩
          case round =>
            clear HOW HL5
            obtain ⟨q, y, pre, rfl, rfl, hy, hlen, hpre, hown, hL⟩ := hrel
            have HO := hid hown
            have HLr := hid hL
            have HPRE := hid hpre
            have HLEN := hid hlen
            cases q with
            | zero =>
              have HI := hid (OwnInts.ofH hown (zs := (lowL n X).reverse) (by rw [← hpre]; simp [rowR, lowL]; omega))
              have hz1 : ((0 : Nat) : Int) - 1 = -1 := by omega
              rw [hz1]
              clear hown hL hpre
              go_wp2_with fail
              go_ret2
              rw [HA.out]
              exact ⟨_, rfl, HI.out, HLr.out⟩
            | succ q =>
              have hz1 : ((q + 1 : Nat) : Int) - 1 = (q : Int) := by omega
              rw [hz1]
              have hqn : q < n := by omega
              obtain ⟨z, hz⟩ : ∃ z : Nat, y % 3 = z := ⟨_, rfl⟩
              obtain ⟨u, hu⟩ : ∃ u : Nat, y / 3 = u := ⟨_, rfl⟩
              have e1 : (y : Int).tmod 3 = (z : Int) := by rw [Int.tmod_eq_emod_of_nonneg (by omega)]; omega
              have e2 : (y : Int).tdiv 3 = (u : Int) := by rw [Int.tdiv_eq_ediv_of_nonneg (by omega)]; omega
              have hzb : z ≤ 2 := by omega
              have hub : u ≤ 1000000000 := by omega
              have HP2 := hid (show (pre ++ [(z : Int)]) ++ lowL q u = lowL n X by rw [← hz, ← hu, ← hpre, List.append_assoc]; rfl)
              have hset := rowR_set n pre (z : Int) q (by omega)
              have HSET := hid hset
              have hc : wr.cell? ⟨w.heap.size, q, none⟩ = some (.int .i64 ((rowR n pre).getD q 0)) := by
                rw [hown.cellAt q (by omega), List.getElem?_map, List.getElem?_eq_getElem (by rw [rowR_len n pre (by omega)]; exact hqn)]
                simp [rowR_len n pre (by omega), hqn]
              have hf := hown.frozenAt q
              obtain ⟨m0, hm0⟩ : ∃ m, (rowR n pre).getD q 0 = m := ⟨_, rfl⟩
              rw [hm0] at hc
              have HST := hid (hown.stored q (.int .i64 (z : Int)))
              have hqi : (q : Int) < (n : Int) := by omega
              have hq1 : IntKind.i64.wrap ((q : Int) - 1) = (q : Int) - 1 := by rw [IntWalk.i64_left]; exact IntWalk.wrap64_in _ (by omega)
              clear hz hu hm0 hset hown hL hpre hlen
              go_wp2_with fail
              have HOn := hid (show (wr.setCell ⟨w.heap.size, q, none⟩ (.int .i64 (z : Int))).ownsRow w.heap.size 3 1 (.slice (some ⟨w.heap.size, 0, none⟩) n n) n ((rowR n (pre ++ [(z : Int)])).map (Value.int .i64)) by rw [← HSET.out, List.map_set]; exact HST.out.1)
              have HLn := hid (show Later w (wr.setCell ⟨w.heap.size, q, none⟩ (.int .i64 (z : Int))) from Below.setCell HLr.out (Nat.le_refl _) _)
              go_roundw
              case rel => exact ⟨q, u, pre ++ [(z : Int)], rfl, by first | rfl | go_num, hub, by rw [List.length_append]; have := HLEN.out; simp; omega, HP2.out, HOn.out, HLn.out⟩
              case measure => simp [intOf]
    · have HA := hid (show wrAns r = none by unfold wrAns; rw [if_neg (by omega)])
      have h2 : Q ≤ r := by omega
      have h3 : decide (Q ≤ r) = true := decide_eq_true h2
      clear hP hQ
      have hd0 : decide (r < 0) = false := decide_eq_false h0
      go_enter Try.func59, Try.ntmps59
      go_wp2_with (go_at_call 104; refine (H19.out _).mono ?_; rintro e w1 ⟨rfl, rfl⟩)
      go_ret2
      rw [HA.out]
      exact ⟨_, rfl, ⟨World.ownsRow_nil _ _ _ _, fun b hb => by simp [Value.ownBlock] at hb⟩, Later.refl _⟩
end Go.Proofs.Ytdahhcigphhfdac
