/- Runs of whole quotients in the model: QuotientRun, QuotientPairs. -/
import Derived.Test.YtdngocjhblpkkacJuR
import Derived.Test.YtdngocjhblpkkacJqA
namespace Go.Proofs.Ytdngocjhblpkkac
open Go.RowKit

theorem l1MostJ_any (a b : Int) (w : World) : Calls Try.prog 19 #[.int .i64 a, .int .i64 b] w fun e w' => e = .returned (.int .i64 (mxJ a b)) ∧ w = w' := by
  by_cases h : b < a
  · have HA := hid (show mxJ a b = a by unfold mxJ; rw [if_neg (by omega)])
    go_enter Try.func19, Try.ntmps19
    go_wp2_with fail
    go_ret
    exact ⟨ret_int HA.out.symm, rfl⟩
  · have HA := hid (show mxJ a b = b by unfold mxJ; split <;> omega)
    go_enter Try.func19, Try.ntmps19
    go_wp2_with fail
    go_ret
    exact ⟨ret_int HA.out.symm, rfl⟩
theorem l1LeastJ_any (a b : Int) (w : World) : Calls Try.prog 20 #[.int .i64 a, .int .i64 b] w fun e w' => e = .returned (.int .i64 (mnJ a b)) ∧ w = w' := by
  by_cases h : a < b
  · have HA := hid (show mnJ a b = a by unfold mnJ; rw [if_pos h])
    go_enter Try.func20, Try.ntmps20
    go_wp2_with fail
    go_ret
    exact ⟨ret_int HA.out.symm, rfl⟩
  · have HA := hid (show mnJ a b = b by unfold mnJ; rw [if_neg h])
    go_enter Try.func20, Try.ntmps20
    go_wp2_with fail
    go_ret
    exact ⟨ret_int HA.out.symm, rfl⟩
set_option maxRecDepth 20000 in
set_option maxHeartbeats 2000000 in
theorem specQuotientRun_any (a b : Int) (w : World) :
    Calls Try.prog 9 #[.int .i64 a, .int .i64 b] w fun e w' => RowsAns w (qrAns a b) e w' := by
  have HQ := hid (fun w0 => juQuotient_any a b w0)
  cases hq : quoJ a b with
  | none =>
    have HA := hid (show qrAns a b = none by unfold qrAns; rw [hq])
    rw [hq] at HQ
    rw [HA.out]
    clear hq HA
    go_enter Try.func9, Try.ntmps9
    go_wp2_with (go_at_call 16; refine (HQ.out _).mono ?_; rintro e w2 ⟨rfl, rfl⟩; simp only [Option.getD_none, Option.isSome_none])
    go_ret2
    exact ⟨_, rfl, OwnRows.noneH _ _ _, Later.refl _⟩
  | some q =>
    have HA := hid (show qrAns a b = some ((dnRun q (mxJ a b, mnJ a b)).map jpL) by unfold qrAns; rw [hq]; exact qr_told hq)
    have HM := hid (fun w0 => l1MostJ_any a b w0)
    have HS := hid (fun w0 => l1LeastJ_any a b w0)
    obtain ⟨_, _, _, hN, hqb⟩ := quo_QP hq
    have HR := hid (fun w0 => juRun_any (mxJ a b) (mnJ a b) q w0 hqb (juN_iff.1 hN))
    rw [qr_told hq] at HR
    rw [hq] at HQ
    rw [HA.out]
    obtain ⟨R, hR⟩ : ∃ R, (dnRun q (mxJ a b, mnJ a b)).map jpL = R := ⟨_, rfl⟩
    obtain ⟨mx, hmx⟩ : ∃ m, mxJ a b = m := ⟨_, rfl⟩
    obtain ⟨mn, hmn⟩ : ∃ m, mnJ a b = m := ⟨_, rfl⟩
    rw [hR] at HR ⊢
    rw [hmx] at HR HM
    rw [hmn] at HR HS
    clear hq HA hR hqb hN hmx hmn
    go_enter Try.func9, Try.ntmps9
    go_wp2_with (first | (go_at_call 16; refine (HQ.out _).mono ?_; rintro e w2 ⟨rfl, rfl⟩; simp only [Option.getD_some, Option.isSome_some]) | (go_at_call 19; refine (HM.out _).mono ?_; rintro e w2 ⟨rfl, rfl⟩) | (go_at_call 20; refine (HS.out _).mono ?_; rintro e w2 ⟨rfl, rfl⟩))
    refine (HR.out _).mono ?_
    rintro e w3 ⟨v3, rfl, ho, hL3⟩
    have HO := hid ho
    have HL := hid hL3
    obtain ⟨o1, o2, rfl, _⟩ := ho.shape
    clear ho hL3
    go_wp2_with fail
    go_ret2
    exact ⟨_, rfl, HO.out, HL.out⟩
set_option maxRecDepth 20000 in
set_option maxHeartbeats 4000000 in
theorem specQuotientPairs_any (q c : Int) (w : World) :
    Calls Try.prog 13 #[.int .i64 q, .int .i64 c] w fun e w' => RowsAns w (qpAns q c) e w' := by
  by_cases c1 : 1 ≤ q ∧ q ≤ 100
  · have hw1 := within_yes c1.1 c1.2
    by_cases c2 : 0 ≤ c ∧ c ≤ 20
    · have hw2 := within_yes c2.1 c2.2
      have HA := hid (show qpAns q c = some ((upRun (q * q) c.toNat (q, 0)).map jpL) from if_pos ⟨c1.1, c1.2, c2.1, c2.2⟩)
      obtain ⟨n, rfl⟩ : ∃ n : Nat, c = (n : Int) := ⟨c.toNat, by omega⟩
      rw [Int.toNat_natCast] at HA
      obtain ⟨q1, q2⟩ := mulBd (x := q) (y := q) (a := 100) (b := 100) ⟨by omega, c1.2⟩ ⟨by omega, c1.2⟩ (by omega)
      have hn : n ≤ 20 := by omega
      obtain ⟨R, hR⟩ : ∃ R, upRun (q * q) n (q, 0) = R := ⟨_, rfl⟩
      have HR := hid (show runJ (upJ (q * q)) n (q, 0) = R from hR)
      rw [hR] at HA
      rw [HA.out]
      have HN := hid (show jpN (q, 0) from ⟨by simp only; omega, by simp only; omega, by simp only; omega⟩)
      clear hR HA c1 c2
      go_enter Try.func13, Try.ntmps13
      go_wp2_with (go_at_call 27; refine (l1In_any _ _ _ _).mono ?_; rintro e w2 ⟨rfl, rfl⟩)
      clear hw1 hw2
      go_loopw [6, 7, 8] (fun o s7 s8 wr => ∃ (a b : Int) (M : List Jp2), s7 = .int .i64 a ∧ s8 = .int .i64 b ∧ OwnRows w.heap.size wr.heap.size wr o (M.map jpL) ∧ M.length ≤ n ∧ 0 ≤ b ∧ b ≤ 1000000 ∧ b ≤ a ∧ a ≤ 10000000000 ∧ (M ++ (if a ≤ 1000000 then runJ (upJ (q * q)) (n - M.length) (a, b) else []) = R) ∧ Later w wr)
        (fun o _ _ _ => n - lenOfH o)
      case atStart =>
        obtain ⟨n1, n2, n3⟩ := HN.out
        exact ⟨q, 0, [], rfl, rfl, OwnRows.noneH _ _ _, Nat.zero_le _, n1, by omega, n2, by simp only at n3; omega, by rw [if_pos n3]; simpa using HR.out, Later.refl _⟩
      case round =>
        obtain ⟨a, b, M, rfl, rfl, hO, hM, hb0, hb1, hba, ha, hR, hL⟩ := hrel
        have HO := hid hO
        have HL := hid hL
        have HRr := hid hR
        obtain ⟨o1, o2, rfl, _⟩ := hO.shape
        have hlen : (M.map jpL).length = M.length := by simp
        have HLN := hid (show (M.map jpL).length ≤ 1000000 by rw [hlen]; omega)
        rw [hlen] at HO ⊢
        have HLEN := hid hlen
        have HW := hid (show w.heap.size ≤ wr.heap.size from HL.out.size)
        clear hO hL hR hlen
        by_cases hMn : M.length < n
        · have hMI : (M.length : Int) < (n : Int) := by omega
          by_cases ha1 : a ≤ 1000000
          · obtain ⟨m, hm⟩ : ∃ m, n - M.length = m + 1 := ⟨n - M.length - 1, by omega⟩
            have HM := hid hm
            have HE := hid (show M ++ runJ (upJ (q * q)) (m + 1) (a, b) = R by have h := HRr.out; rw [if_pos ha1, hm] at h; exact h)
            obtain ⟨q3, q4⟩ := mulBd (x := q * q) (y := a) (a := 10000) (b := 1000000) ⟨q1, by omega⟩ ⟨by omega, ha1⟩ (by omega)
            obtain ⟨MM, hMM⟩ : ∃ MM, M.map jpL = MM := ⟨_, rfl⟩
            have HMM := hid hMM
            rw [hMM] at HO HLN HLEN
            clear hMM hm HRr
            go_wp2_with (at_builtin; refine wpList_push2 (by rfl) _ _ (by rfl) w.heap.size wr _ (.slice o1 M.length o2) MM a b (by rfl) HW.out HO.out HLN.out (by rfl) rfl ?_)
            intro g' cap1 w7 hO7 hG7 _
            have HO7 := hid hO7
            have HL7 := hid (show Later w w7 from later_grown HL.out hG7 (fun b' hb' => by obtain ⟨us, _, hus, _⟩ := HO.out.partsH; exact (hus.lt b' hb').1))
            clear hO7 hG7
            rw [HLEN.out] at HO7 ⊢
            have HO8 := hid (show OwnRows w.heap.size w7.heap.size w7 (.slice (some ⟨g', 0, none⟩) (M.length + 1) cap1) ((M ++ [(a, b)]).map jpL) by have h := HO7.out; rw [← HMM.out] at h; simpa [jpL] using h)
            obtain ⟨z, hz⟩ : ∃ z, q * q * a - b = z := ⟨_, rfl⟩
            by_cases hlt : z < a
            · have HF := hid (show M ++ [(a, b)] = R by
                have h := HE.out
                have hu : upJ (q * q) (a, b) = none := by unfold upJ; simp only; rw [if_neg (by omega)]
                rw [runJ_none hu] at h; exact h)
              have hzl : q * q * a - b < a := by omega
              go_wp2_with fail
              go_ret2
              rw [← HF.out]
              exact ⟨_, rfl, HO8.out, HL7.out⟩
            · have hzl : ¬ q * q * a - b < a := by omega
              have HF := hid (show M ++ [(a, b)] ++ (if z ≤ 1000000 then runJ (upJ (q * q)) (n - (M ++ [(a, b)]).length) (z, a) else []) = R by
                have h := HE.out
                rw [List.append_assoc, List.length_append, List.length_singleton, show n - (M.length + 1) = m by have := HM.out; omega]
                by_cases hz1 : z ≤ 1000000
                · have hu : upJ (q * q) (a, b) = some (z, a) := by unfold upJ; simp only; rw [if_pos (by omega), hz]
                  rw [if_pos hz1]
                  rw [runJ_some hu] at h; exact h
                · have hu : upJ (q * q) (a, b) = none := by unfold upJ; simp only; rw [if_neg (by omega)]
                  rw [if_neg hz1]
                  rw [runJ_none hu] at h; exact h)
              go_wp2_with fail
              go_roundw
              case rel => exact ⟨z, a, M ++ [(a, b)], rfl, rfl, by simpa using HO8.out, by simp; omega, by omega, ha1, by omega, by omega, HF.out, HL7.out⟩
              case measure => simp only [lenOfH]; omega
          · have HE := hid (show M = R by have h := HRr.out; rw [if_neg ha1] at h; simpa using h)
            go_wp2_with fail
            go_ret2
            rw [← HE.out]
            exact ⟨_, rfl, HO.out, HL.out⟩
        · have hMI : ¬ (M.length : Int) < (n : Int) := by omega
          have HE := hid (show M = R by
            have h := HRr.out
            rw [show n - M.length = 0 by omega] at h
            split at h <;> simpa [runJ] using h)
          go_wp2_with fail
          go_ret2
          rw [← HE.out]
          exact ⟨_, rfl, HO.out, HL.out⟩
    · have hw2 := within_no c2
      have HA := hid (show qpAns q c = none from if_neg (by omega))
      rw [HA.out]
      clear c1 c2 HA
      go_enter Try.func13, Try.ntmps13
      go_wp2_with (go_at_call 27; refine (l1In_any _ _ _ _).mono ?_; rintro e w2 ⟨rfl, rfl⟩)
      go_ret2
      exact ⟨_, rfl, OwnRows.noneH _ _ _, Later.refl _⟩
  · have hw1 := within_no c1
    have HA := hid (show qpAns q c = none from if_neg (by omega))
    rw [HA.out]
    clear c1 HA
    go_enter Try.func13, Try.ntmps13
    go_wp2_with (go_at_call 27; refine (l1In_any _ _ _ _).mono ?_; rintro e w2 ⟨rfl, rfl⟩)
    go_ret2
    exact ⟨_, rfl, OwnRows.noneH _ _ _, Later.refl _⟩
end Go.Proofs.Ytdngocjhblpkkac
