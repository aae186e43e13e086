/- Four curvatures: the roots with an outer circle (the model). -/
import Derived.Test.YtoaopmafokoaoabQdR
import Derived.Test.YtoaopmafokoaoabQdF
import Derived.Test.YtoaopmafokoaoabRowsKI
namespace Go.Proofs.Ytoaopmafokoaoab
open Go.RowKit

/-- A row of four numbers laid at once. -/
theorem ownsFour (w : World) (x y z t : Int) : OwnInts w.heap.size (w.heap.size + 1) (w.alloc (.cells #[.int .i64 x, .int .i64 y, .int .i64 z, .int .i64 t] 3)) (.slice (some ⟨w.heap.size, 0, none⟩) 4 4) [x, y, z, t] := by
  have h := World.ownsRow_lit (e := 3) (size := 1) w #[.int .i64 x, .int .i64 y, .int .i64 z, .int .i64 t] 4 (Nat.le_refl _) (by unfold maxLen; omega) (by simp)
  refine ⟨by simpa using h, fun b hb => by simp [Value.ownBlock] at hb; omega⟩
theorem rootsC_len (n b : Int) (k : Nat) : ∀ c, (rootsC n b k c).length ≤ k := by
  induction k with
  | zero => intro c; simp [rootsC]
  | succ k ih =>
    intro c
    unfold rootsC
    split
    · have h1 := ih (c + 1)
      have h2 : (rootAt n b c).length ≤ 1 := by unfold rootAt; split <;> simp
      simp; omega
    · simp
theorem rootsTo_len (n : Int) (k : Nat) : (rootsTo n k).length ≤ k * 4000 := by
  induction k with
  | zero => simp [rootsTo]
  | succ k ih =>
    rw [rootsTo_succ]
    have := rootsC_len n (n + 1 + k) 4000 (n + 1 + k)
    unfold rootsB
    simp; omega
theorem rootsC_step (n b c : Int) (m : Nat) (h : 4 * c * (b - n) ≤ (b + n) * (b + n)) : rootsC n b (m + 1) c = rootAt n b c ++ rootsC n b m (c + 1) := by rw [rootsC, if_pos h]
theorem rootsC_stop (n b c : Int) (m : Nat) (h : ¬ 4 * c * (b - n) ≤ (b + n) * (b + n)) : rootsC n b (m + 1) c = [] := by rw [rootsC, if_neg h]
theorem prodQ {x y X Y : Int} (hx : 0 ≤ x ∧ x ≤ X) (hy : 0 ≤ y ∧ y ≤ Y) : 0 ≤ x * y ∧ x * y ≤ X * Y :=
  ⟨Int.mul_nonneg hx.1 hy.1, Int.mul_le_mul hx.2 hy.2 hy.1 (by omega)⟩
set_option maxRecDepth 20000 in
set_option maxHeartbeats 4000000 in
theorem apRoots_any (n : Int) (w : World) (hn : 1 ≤ n ∧ n ≤ 30) :
    Calls Try.prog 92 #[.int .i64 n] w fun e w' => MadeRows w (rootsN n) e w' := by
  obtain ⟨i0, hi, hz0, hz1, hz2⟩ := info_parts Try.infoInts
  obtain ⟨hn1, hn2⟩ := hn
  go_enter Try.func92, Try.ntmps92
  go_wp2_with fail
  go_loopw [3, 4] (fun o i wr => ∃ k : Nat, k ≤ (2 * n - 1).toNat ∧ i = .int .i64 (n + 1 + k) ∧ OwnRows w.heap.size wr.heap.size wr o (rootsTo n k) ∧ Later w wr) (fun _ i _ => 200 - (intOf i).toNat)
  case atStart => exact ⟨0, Nat.zero_le _, by simp, OwnRows.noneH _ _ _, Later.refl w⟩
  case round =>
    obtain ⟨k, hk, rfl, hO, hL⟩ := hrel
    have HO := hid hO
    have HL := hid hL
    obtain ⟨b, hb⟩ : ∃ b : Int, n + 1 + (k : Int) = b := ⟨_, rfl⟩
    rw [hb]
    by_cases hlt : b < 3 * n
    · have HSU := hid (rootsTo_succ n k)
      rw [hb] at HSU
      have HT0 := hid (show rootsTo n k ++ rootsC n b 4000 b = rootsTo n (k + 1) by rw [HSU.out]; rfl)
      have HLN := hid (rootsTo_len n (k + 1))
      obtain ⟨T, hT⟩ : ∃ T, rootsTo n (k + 1) = T := ⟨_, rfl⟩
      have HTT := hid hT
      rw [hT] at HT0 HLN
      have HLN2 := hid (show T.length ≤ 1000000 by have := HLN.out; omega)
      have hb1 : n < b := by omega
      have hb2 : b ≤ 90 := by omega
      have HK := hid hk
      have HB := hid hb
      clear hO hL hT hb HSU HLN hk
      go_wp2_with fail
      go_loopw [3, 5] (fun o i wi => ∃ (j : Nat) (P : List (List Int)), j ≤ 3600 ∧ i = .int .i64 (b + j) ∧ P ++ rootsC n b (4000 - j) (b + j) = T ∧ OwnRows w.heap.size wi.heap.size wi o P ∧ Later w wi) (fun _ i _ => 5000 - (intOf i).toNat)
      case atStart => exact ⟨0, rootsTo n k, by omega, by simp, by simpa using HT0.out, HO.out, HL.out⟩
      case round =>
        clear HO HL HT0
        obtain ⟨j, P, hj, rfl, hP, hO, hL⟩ := hrel
        have HO := hid hO
        have HL := hid hL
        have HPT := hid hP
        have hpl : P.length ≤ 1000000 := by have := HLN2.out; rw [← hP, List.length_append] at this; omega
        obtain ⟨c, hc⟩ : ∃ c : Int, b + (j : Int) = c := ⟨_, rfl⟩
        obtain ⟨m, hm⟩ : ∃ m, 4000 - j = m + 1 := ⟨3999 - j, by omega⟩
        rw [hc, hm] at HPT
        rw [hc]
        have hbc : b ≤ c := by omega
        have hc1 : c ≤ 3690 := by omega
        have HC := hid hc
        have HM := hid hm
        obtain ⟨y1, y2⟩ := prodQ (X := 90) (Y := 3690) (show 0 ≤ b ∧ b ≤ 90 by omega) (show 0 ≤ c ∧ c ≤ 3690 by omega)
        obtain ⟨y3, y4⟩ := prodQ (X := 30) (Y := 3780) (show 0 ≤ n ∧ n ≤ 30 by omega) (show 0 ≤ b + c ∧ b + c ≤ 3780 by omega)
        obtain ⟨y5, y6⟩ := prodQ (X := 90) (Y := 90) (show 0 ≤ b - n ∧ b - n ≤ 90 by omega) (show 0 ≤ b - n ∧ b - n ≤ 90 by omega)
        obtain ⟨S, hS⟩ : ∃ S, b * c - n * (b + c) = S := ⟨_, rfl⟩
        have hSb : -200000 ≤ S ∧ S ≤ 400000 := by omega
        obtain ⟨t1, t2⟩ := hSb
        have HS := hid hS
        have w1 : IntKind.i64.wrap (b * c - n * (b + c)) = S := by rw [hS, IntWalk.i64_left]; exact IntWalk.wrap64_in _ (by omega)
        clear hO hL hP hc hm hS
        by_cases hin : 4 * c * (b - n) ≤ (b + n) * (b + n)
        · have hbq : 4 * S ≤ (b - n) * (b - n) := by rw [← HS.out]; exact (bound_eq n b c).1 hin
          have hc3 := tried_bd ⟨hn1, hn2⟩ ⟨hb1, by omega⟩ hbc hin
          have HST := hid (rootsC_step n b c m hin)
          have HPT2 := hid (show (P ++ rootAt n b c) ++ rootsC n b m (c + 1) = T by rw [List.append_assoc, ← HST.out]; exact HPT.out)
          have HJ := hid (show j + 1 ≤ 3600 by have := HC.out; omega)
          have HIN := hid hin
          have hcut : ¬ (b - n) * (b - n) < 4 * S := by omega
          clear hin hbq
          by_cases hneg : S < 0
          · have HR0 := hid (show rootAt n b c = [] from rootAt_no (tried_neg (by rw [HS.out]; exact hneg)))
            go_wp2_with fail
            go_roundw
            case rel => exact ⟨j + 1, P, HJ.out, by have := HC.out; go_num, by rw [show 4000 - (j + 1) = m by have := HM.out; omega, show b + ((j + 1 : Nat) : Int) = c + 1 by have := HC.out; omega]; have := HPT2.out; rw [HR0.out, List.append_nil] at this; exact this, HO.out, HL.out⟩
            case measure => simp [intOf]; have := HC.out; omega
          · obtain ⟨s, rfl⟩ : ∃ s : Nat, S = (s : Int) := ⟨S.toNat, by omega⟩
            have hs4 : s ≤ 400000 := by omega
            have hrz : rootZ (b * c - n * (b + c)) = (rootN s : Int) := by rw [HS.out]; rfl
            have hrs := (rootN_spec s).1
            obtain ⟨r, hr⟩ : ∃ r, rootN s = r := ⟨_, rfl⟩
            have HFR := hid (fun (w0 : World) => show Calls Try.prog 112 #[.int .i64 s] w0 fun e w' => e = .returned (.int .i64 (r : Nat)) ∧ w' = w0 from (hr ▸ foRoot_any s w0 (by omega) : Calls Try.prog 112 #[.int .i64 s] w0 fun e w' => e = .returned (.int .i64 (r : Nat)) ∧ w0 = w').mono fun _ _ h => ⟨h.1, h.2.symm⟩)
            rw [hr] at hrz hrs
            have hr6 : r ≤ 640 := by
              rcases Nat.lt_or_ge 640 r with h | h
              · have := Nat.mul_le_mul (show 641 ≤ r by omega) (show 641 ≤ r by omega); omega
              · exact h
            have q1 : (0 : Int) ≤ (r : Int) * (r : Int) := by rw [← Int.natCast_mul]; omega
            have q2 : (r : Int) * (r : Int) ≤ 400000 := by rw [← Int.natCast_mul]; omega
            have HRZ := hid hrz
            obtain ⟨D, hD⟩ : ∃ D, b + c - n - 2 * (r : Int) = D := ⟨_, rfl⟩
            have HTR := hid (show triedQ n b c r = [-n, b, c, D] by unfold triedQ; rw [hD])
            have HRA := hid (show rootAt n b c = if apB [-n, b, c, D] = true ∧ gcdL [-n, b, c, D] = 1 then [[-n, b, c, D]] else [] by unfold rootAt; rw [hrz, HTR.out])
            have HNS := hid (fun (h : (r : Int) * (r : Int) ≠ (s : Int)) => show rootAt n b c = [] from rootAt_no (tried_nosq (by rw [HRZ.out, HS.out]; exact h)))
            clear hr hrz hrs
            go_wp2_with fail
            refine (HFR.out _).mono ?_
            rintro e wi ⟨rfl, rfl⟩
            have hA := Later.alloc wi (.cells #[.int .i64 (-n), .int .i64 b, .int .i64 c, .int .i64 D] 3)
            have HOF := hid (ownsFour wi (-n) b c D)
            have HOB := hid (HO.out.later hA)
            have HOA := hid (HOB.out.wide (Nat.le_refl _) hA.size)
            have HLA := hid (HL.out.trans hA)
            have HSZ := hid (show (wi.alloc (.cells #[.int .i64 (-n), .int .i64 b, .int .i64 c, .int .i64 D] 3)).heap.size = wi.heap.size + 1 by simp)
            have HWW := hid (show w.heap.size ≤ wi.heap.size from HL.out.size)
            have w2 : IntKind.i64.wrap (b + c - n - 2 * (r : Int)) = D := by rw [hD, IntWalk.i64_left]; exact IntWalk.wrap64_in _ (by omega)
            clear hA hD
            by_cases hsq : (r : Int) * (r : Int) = (s : Int)
            · have hbe : ((r : Int) * (r : Int) == (s : Int)) = true := by simp [hsq]
              cases hap : apB [-n, b, c, D]
              · have HAP := hid hap
                have HR0 := hid (show rootAt n b c = [] by rw [HRA.out, hap]; simp)
                clear hap hsq
                go_wp2_with fail
                generalize wi.alloc (.cells #[.int .i64 (-n), .int .i64 b, .int .i64 c, .int .i64 D] 3) = w3 at HOF HOB HOA HLA HSZ ⊢
                refine (apGood_as _ _ _ _ HAP.out HOF.out.ints).mono ?_
                rintro e w' ⟨rfl, rfl⟩
                go_wp2_with fail
                go_roundw
                case rel => exact ⟨j + 1, P, HJ.out, by have := HC.out; go_num, by rw [show 4000 - (j + 1) = m by have := HM.out; omega, show b + ((j + 1 : Nat) : Int) = c + 1 by have := HC.out; omega]; have := HPT2.out; rw [HR0.out, List.append_nil] at this; exact this, HOA.out, HLA.out⟩
                case measure => simp [intOf]; have := HC.out; omega
              · have HAP := hid hap
                have HQD := hid ((apB_iff _ _ _ _).1 hap)
                by_cases hg1 : gcdL [-n, b, c, D] = 1
                · have HR1 := hid (show rootAt n b c = [[-n, b, c, D]] by rw [HRA.out, if_pos ⟨hap, hg1⟩])
                  have HG1 := hid hg1
                  clear hap hsq hg1
                  go_wp2_with fail
                  generalize wi.alloc (.cells #[.int .i64 (-n), .int .i64 b, .int .i64 c, .int .i64 D] 3) = w3 at HOF HOB HOA HLA HSZ ⊢
                  refine (apGood_as _ _ _ _ HAP.out HOF.out.ints).mono ?_
                  rintro e w' ⟨rfl, rfl⟩
                  go_wp2_with fail
                  refine (apScale_any _ _ _ _ _ _ HQD.out HOF.out.ints).mono ?_
                  rintro e w4 ⟨rfl, hL4⟩
                  rw [HG1.out]
                  have HO4 := hid (HOF.out.later hL4)
                  have HP4 := hid (HOB.out.later hL4)
                  have HL4 := hid (HLA.out.trans hL4)
                  have HS4 := hid hL4.size
                  clear hL4 HOF HOA HLA
                  obtain ⟨us, hul, hus, hub, hin', hdis⟩ := HP4.out.partsH
                  obtain ⟨o1, o2, rfl, _⟩ := HP4.out.shape
                  have HIN := hid hin'
                  have HDI := hid hdis
                  have hown4 := hid (hus.alloc (.cells #[.slice (some ⟨wi.heap.size, 0, none⟩) 4 4] 24))
                  have hlu : us.length ≤ 1000000 := by omega
                  have HUL := hid hul
                  clear hus hin' hdis hub
                  go_wp2_with (at_builtin; refine wpList_append_lies _ (by rfl) _ _ _ (by rfl) w.heap.size 24 i0 (.slice none 0 0) 1 24 Try.underlying26 hi hz0 hz1 hz2 rfl (by omega) _ us.length us (by rfl) (by exact hown4.out) ⟨w4.heap.size, 0, none⟩ 1 1 [.slice (some ⟨wi.heap.size, 0, none⟩) 4 4] (by rfl) (by rfl) (World.news_of_block (cs := #[.slice (some ⟨wi.heap.size, 0, none⟩) 4 4]) (t := 24) (fr := (0, 0)) (heap_alloc_new w4 _)) (by simp [Value.oneCell']) (by omega) (by unfold maxLen; omega) (by omega) (by have := HL4.out.size; simp; omega) (w4.heap.size + 1) (by simp) ?_)
                  intro g' cap1 w7 hown7 hgrow hat hglt
                  have hA := Later.alloc w4 (.cells #[.slice (some ⟨wi.heap.size, 0, none⟩) 4 4] 24)
                  have HU4 := hid (show OwnInts wi.heap.size (w4.alloc (.cells #[.slice (some ⟨wi.heap.size, 0, none⟩) 4 4] 24)).heap.size (w4.alloc (.cells #[.slice (some ⟨wi.heap.size, 0, none⟩) 4 4] 24)) (.slice (some ⟨wi.heap.size, 0, none⟩) 4 4) [-n, b, c, D] from (HO4.out.later hA).wide (Nat.le_refl _) (by have h1 := HSZ.out; have h2 := HS4.out; simp; omega))
                  have HP := hid (OwnRows.pushed (h0 := wi.heap.size) HUL.out hown4.out (fun i hi => ((HIN.out i hi).later hA)) HDI.out HU4.out HWW.out (by rw [HUL.out]; exact hown7) hgrow)
                  have HL7 := hid (show Later w w7 from (HL4.out.trans hA).grown hgrow (by have := HL4.out.size; simp; omega) (fun b hb => (hown4.out.lt b hb).1))
                  clear hown7 hgrow hat hA
                  go_wp2_with fail
                  go_roundw
                  case rel => exact ⟨j + 1, P ++ [[-n, b, c, D]], HJ.out, by have := HC.out; go_num, by rw [show 4000 - (j + 1) = m by have := HM.out; omega, show b + ((j + 1 : Nat) : Int) = c + 1 by have := HC.out; omega, ← HR1.out]; exact HPT2.out, by simpa using HP.out, HL7.out⟩
                  case measure => simp [intOf]; have := HC.out; omega
                · have HR0 := hid (show rootAt n b c = [] by rw [HRA.out, if_neg (fun h => hg1 h.2)])
                  obtain ⟨G, hG⟩ : ∃ G, gcdL [-n, b, c, D] = G := ⟨_, rfl⟩
                  have hgb : (G == 1) = false := by rw [← hG]; simp [hg1]
                  have HGG := hid hG
                  clear hap hsq hg1 hG
                  go_wp2_with fail
                  generalize wi.alloc (.cells #[.int .i64 (-n), .int .i64 b, .int .i64 c, .int .i64 D] 3) = w3 at HOF HOB HOA HLA HSZ ⊢
                  refine (apGood_as _ _ _ _ HAP.out HOF.out.ints).mono ?_
                  rintro e w' ⟨rfl, rfl⟩
                  go_wp2_with fail
                  refine (apScale_any _ _ _ _ _ _ HQD.out HOF.out.ints).mono ?_
                  rintro e w4 ⟨rfl, hL4⟩
                  rw [HGG.out]
                  have HP4 := hid ((HOA.out.later hL4).wide (Nat.le_refl _) hL4.size)
                  have HL4 := hid (HLA.out.trans hL4)
                  clear hL4 HOF HOA HLA
                  go_wp2_with fail
                  go_roundw
                  case rel => exact ⟨j + 1, P, HJ.out, by have := HC.out; go_num, by rw [show 4000 - (j + 1) = m by have := HM.out; omega, show b + ((j + 1 : Nat) : Int) = c + 1 by have := HC.out; omega]; have := HPT2.out; rw [HR0.out, List.append_nil] at this; exact this, HP4.out, HL4.out⟩
                  case measure => simp [intOf]; have := HC.out; omega
            · have hbe : ((r : Int) * (r : Int) == (s : Int)) = false := by simp [hsq]
              have HR0 := hid (HNS.out hsq)
              clear hsq
              go_wp2_with fail
              go_roundw
              case rel => exact ⟨j + 1, P, HJ.out, by have := HC.out; go_num, by rw [show 4000 - (j + 1) = m by have := HM.out; omega, show b + ((j + 1 : Nat) : Int) = c + 1 by have := HC.out; omega]; have := HPT2.out; rw [HR0.out, List.append_nil] at this; exact this, HOA.out, HLA.out⟩
              case measure => simp [intOf]; have := HC.out; omega
        · have hbq : (b - n) * (b - n) < 4 * S := by
            have h2 : ¬ 4 * S ≤ (b - n) * (b - n) := fun h => hin ((bound_eq n b c).2 (by rw [HS.out]; exact h))
            omega
          have HE := hid (show P = rootsTo n (k + 1) by have := HPT.out; rw [rootsC_stop n b c m hin, List.append_nil] at this; rw [this, HTT.out])
          clear hin
          go_wp2_with fail
          go_roundw
          case rel => exact ⟨k + 1, by have := HB.out; omega, by have := HB.out; go_num, by rw [← HE.out]; exact HO.out, HL.out⟩
          case measure => simp [intOf]; omega
    · have HE := hid (show rootsTo n k = rootsN n by rw [show k = (2 * n - 1).toNat by omega]; rfl)
      go_wp2_with fail
      go_ret
      exact ⟨_, rfl, by rw [← HE.out]; exact HO.out, HL.out⟩
end Go.Proofs.Ytoaopmafokoaoab
