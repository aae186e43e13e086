/- Runs of whole quotients in the program: QuotientRun, QuotientPairs. -/
import Derived.Test.YtdngocjhblpkkacJpQ
import Derived.Test.YtdngocjhblpkkacJqA
namespace Go.Proofs.Ytdngocjhblpkkac
open Go.RowKit

theorem qr_pairOk {a b q : Int} (h : quoJ a b = some q) : pairOk (quoS q) (mxJ a b) (mnJ a b) = some (mxJ a b, mnJ a b) := by
  obtain ⟨_, _, h1, h2, _⟩ := quo_QP h
  unfold pairOk quoS
  rw [h1, h2]
  simp
set_option maxRecDepth 20000 in
set_option maxHeartbeats 2000000 in
theorem implQuotientRun_any (a b : Int) (w : World) :
    Calls Try.prog 8 #[.int .i64 a, .int .i64 b] w fun e w' => RowsAns w (qrAns a b) e w' := by
  have HQ := hid (fun w0 => implSquareQuotient_any a b w0)
  cases hq : quoJ a b with
  | none =>
    have HA := hid (show qrAns a b = none by unfold qrAns; rw [hq])
    rw [hq] at HQ
    rw [HA.out]
    clear hq HA
    go_enter Try.func8, Try.ntmps8
    go_wp2_with (go_at_call 6; refine (HQ.out _).mono ?_; rintro e w2 ⟨rfl, rfl⟩; simp only [Option.getD_none, Option.isSome_none])
    go_ret2
    exact ⟨_, rfl, OwnRows.noneH _ _ _, Later.refl _⟩
  | some q =>
    have HA := hid (show qrAns a b = toldJ (dnRun q (mxJ a b, mnJ a b)) by unfold qrAns; rw [hq])
    obtain ⟨_, _, _, _, hqb⟩ := quo_QP hq
    have HD := hid (fun w0 => descentFrom_yes (quoEq q hqb) (mxJ a b) (mnJ a b) w0 (qr_pairOk hq))
    rw [hq] at HQ
    rw [HA.out]
    obtain ⟨T, hT⟩ : ∃ T, toldJ (dnRun q (mxJ a b, mnJ a b)) = T := ⟨_, rfl⟩
    rw [hT] at HD ⊢
    clear hq HA hT hqb
    by_cases h1 : a < b
    · have h0 : a ≤ b := by omega
      have e1 : mxJ a b = b := by unfold mxJ; split <;> omega
      have e2 : mnJ a b = a := by unfold mnJ; split <;> omega
      rw [e1, e2] at HD
      clear e1 e2
      go_enter Try.func8, Try.ntmps8
      go_wp2_with (go_at_call 6; refine (HQ.out _).mono ?_; rintro e w2 ⟨rfl, rfl⟩; simp only [Option.getD_some, Option.isSome_some])
      refine (HD.out _).mono ?_
      rintro e w3 ⟨v3, rfl, ho, hL3⟩
      have HO := hid ho
      have HL := hid hL3
      obtain ⟨o1, o2, rfl, _⟩ := ho.shape
      clear ho hL3
      go_wp2_with fail
      go_ret2
      exact ⟨_, rfl, HO.out, HL.out⟩
    · by_cases h2 : b < a
      · have h0 : b ≤ a := by omega
        have h5 : ¬ a ≤ b := by omega
        have e1 : mxJ a b = a := by unfold mxJ; split <;> omega
        have e2 : mnJ a b = b := by unfold mnJ; split <;> omega
        rw [e1, e2] at HD
        clear e1 e2
        go_enter Try.func8, Try.ntmps8
        go_wp2_with (go_at_call 6; refine (HQ.out _).mono ?_; rintro e w2 ⟨rfl, rfl⟩; simp only [Option.getD_some, Option.isSome_some])
        refine (HD.out _).mono ?_
        rintro e w3 ⟨v3, rfl, ho, hL3⟩
        have HO := hid ho
        have HL := hid hL3
        obtain ⟨o1, o2, rfl, _⟩ := ho.shape
        clear ho hL3
        go_wp2_with fail
        go_ret2
        exact ⟨_, rfl, HO.out, HL.out⟩
      · obtain rfl : b = a := by omega
        have e1 : mxJ b b = b := by unfold mxJ; split <;> omega
        have e2 : mnJ b b = b := by unfold mnJ; split <;> omega
        rw [e1, e2] at HD
        clear e1 e2
        go_enter Try.func8, Try.ntmps8
        go_wp2_with (go_at_call 6; refine (HQ.out _).mono ?_; rintro e w2 ⟨rfl, rfl⟩; simp only [Option.getD_some, Option.isSome_some])
        refine (HD.out _).mono ?_
        rintro e w3 ⟨v3, rfl, ho, hL3⟩
        have HO := hid ho
        have HL := hid hL3
        obtain ⟨o1, o2, rfl, _⟩ := ho.shape
        clear ho hL3
        go_wp2_with fail
        go_ret2
        exact ⟨_, rfl, HO.out, HL.out⟩
set_option maxRecDepth 20000 in
set_option maxHeartbeats 2000000 in
theorem implQuotientPairs_any (q c : Int) (w : World) :
    Calls Try.prog 12 #[.int .i64 q, .int .i64 c] w fun e w' => RowsAns w (qpAns q c) e w' := by
  by_cases h1 : 1 ≤ q
  · by_cases h2 : q ≤ 100
    · by_cases h3 : 0 ≤ c
      · by_cases h4 : c ≤ 20
        · have HA := hid (show qpAns q c = some ((upRun (q * q) c.toNat (q, 0)).map jpL) from if_pos ⟨h1, h2, h3, h4⟩)
          obtain ⟨n, rfl⟩ : ∃ n : Nat, c = (n : Int) := ⟨c.toNat, by omega⟩
          rw [Int.toNat_natCast] at HA
          obtain ⟨q1, q2⟩ := mulBd (x := q) (y := q) (a := 100) (b := 100) ⟨by omega, h2⟩ ⟨by omega, h2⟩ (by omega)
          have hn : n ≤ 20 := by omega
          have HR := hid (fun w0 => run_any 26 Try.call26 (upJ (q * q)) (.iface 36 (.agg #[.int .i64 (q * q)])) upJ_keep (fun p w0 hp => up_any (quoEq (q * q) ⟨by omega, by omega⟩) p.1 p.2 w0 hp) q 0 n (by omega) w0 ⟨by simp only; omega, by simp only; omega, by simp only; omega⟩)
          obtain ⟨R, hR⟩ : ∃ R, upRun (q * q) n (q, 0) = R := ⟨_, rfl⟩
          have hRr : runJ (upJ (q * q)) n (q, 0) = R := hR
          have HLN := hid (show R.length ≤ n by rw [← hRr]; exact runJ_len _ _ _)
          rw [hR] at HA
          rw [hRr] at HR
          rw [HA.out]
          clear hR hRr HA
          go_enter Try.func12, Try.ntmps12
          go_wp2_with fail
          refine (HR.out _).mono ?_
          rintro e w4 ⟨v4, rfl, ho, hL4⟩
          have HL4 := hid hL4
          have HO4 := hid (ho.jps (by have := HLN.out; omega))
          obtain ⟨o1, o2, rfl, _⟩ := ho.shape
          have hlb := HLN.out
          clear hL4 ho
          go_wp2_with fail
          refine (listsOfJ_any _ R _ (by omega) HO4.out).mono ?_
          rintro e w5 ⟨v5, rfl, ho5, hL5⟩
          have HL5 := hid (HL4.out.trans hL5)
          obtain ⟨a5, c5, rfl, _⟩ := ho5.shape
          rw [List.length_map] at ho5
          have HO5 := hid (ho5.wide HL4.out.size (Nat.le_refl _))
          clear hL5 ho5
          go_wp2_with fail
          go_ret2
          exact ⟨_, rfl, HO5.out, HL5.out⟩
        · have HA := hid (show qpAns q c = none from if_neg (by omega))
          rw [HA.out]
          clear HA
          go_enter Try.func12, Try.ntmps12
          go_wp2_with fail
          go_ret2
          exact ⟨_, rfl, OwnRows.noneH _ _ _, Later.refl _⟩
      · have HA := hid (show qpAns q c = none from if_neg (by omega))
        rw [HA.out]
        clear HA
        go_enter Try.func12, Try.ntmps12
        go_wp2_with fail
        go_ret2
        exact ⟨_, rfl, OwnRows.noneH _ _ _, Later.refl _⟩
    · have HA := hid (show qpAns q c = none from if_neg (by omega))
      rw [HA.out]
      clear HA
      go_enter Try.func12, Try.ntmps12
      go_wp2_with fail
      go_ret2
      exact ⟨_, rfl, OwnRows.noneH _ _ _, Later.refl _⟩
  · have HA := hid (show qpAns q c = none from if_neg (by omega))
    rw [HA.out]
    clear HA
    go_enter Try.func12, Try.ntmps12
    go_wp2_with fail
    go_ret2
    exact ⟨_, rfl, OwnRows.noneH _ _ _, Later.refl _⟩
end Go.Proofs.Ytdngocjhblpkkac
