/- QdX, QdX2, QdY, QdZ, QdZ2, OwPr, QdAr, QdAs: in one text. -/
import Derived.Test.YtpkdikfjcbmcbabQdR
import Derived.Test.YtpkdikfjcbmcbabQdF
import Derived.Test.YtpkdikfjcbmcbabRowsK
import Derived.Test.YtpkdikfjcbmcbabQdN
import Derived.Test.YtpkdikfjcbmcbabQdJ
import Derived.Test.YtpkdikfjcbmcbabIntC
import Derived.Deep.RegionHeld3
import Derived.Deep.AppendLies
import Derived.Laws.AppendOwnNone
namespace Go.Proofs.Ytpkdikfjcbmcbab
open Go.RowKit


/-- A row of four numbers laid at once. -/
theorem ownsFour (w : World) (x y z t : Int) : OwnInts w.heap.size (w.heap.size + 1) (w.alloc (.cells #[.int .i64 x, .int .i64 y, .int .i64 z, .int .i64 t] 3)) (.slice (some ⟨w.heap.size, 0, none⟩) 4 4) [x, y, z, t] := by
  have h := World.ownsRow_lit (e := 3) (size := 1) w #[.int .i64 x, .int .i64 y, .int .i64 z, .int .i64 t] 4 (Nat.le_refl _) (by unfold maxLen; omega) (by simp)
  refine ⟨by simpa using h, fun b hb => by simp [Value.ownBlock] at hb; omega⟩
theorem rootsC_len (n b : Int) (k : Nat) : ∀ c, (rootsC n b k c).length ≤ k := by
  induction k with
  | zero => intro c; simp [rootsC]
  | succ k ih =>
    intro c
    unfold rootsC
    split
    · have h1 := ih (c + 1)
      have h2 : (rootAt n b c).length ≤ 1 := by unfold rootAt; split <;> simp
      simp; omega
    · simp
theorem rootsTo_len (n : Int) (k : Nat) : (rootsTo n k).length ≤ k * 4000 := by
  induction k with
  | zero => simp [rootsTo]
  | succ k ih =>
    rw [rootsTo_succ]
    have := rootsC_len n (n + 1 + k) 4000 (n + 1 + k)
    unfold rootsB
    simp; omega
theorem rootsC_step (n b c : Int) (m : Nat) (h : 4 * c * (b - n) ≤ (b + n) * (b + n)) : rootsC n b (m + 1) c = rootAt n b c ++ rootsC n b m (c + 1) := by rw [rootsC, if_pos h]
theorem rootsC_stop (n b c : Int) (m : Nat) (h : ¬ 4 * c * (b - n) ≤ (b + n) * (b + n)) : rootsC n b (m + 1) c = [] := by rw [rootsC, if_neg h]
theorem prodQ {x y X Y : Int} (hx : 0 ≤ x ∧ x ≤ X) (hy : 0 ≤ y ∧ y ≤ Y) : 0 ≤ x * y ∧ x * y ≤ X * Y :=
  ⟨Int.mul_nonneg hx.1 hy.1, Int.mul_le_mul hx.2 hy.2 hy.1 (by omega)⟩
set_option maxRecDepth 20000 in
set_option maxHeartbeats 4000000 in
theorem apRoots_any (n : Int) (w : World) (hn : 1 ≤ n ∧ n ≤ 30) :
    Calls Try.prog 41 #[.int .i64 n] w fun e w' => MadeRows w (rootsN n) e w' := by
  obtain ⟨i0, hi, hz0, hz1, hz2⟩ := info_parts Try.infoInts
  obtain ⟨hn1, hn2⟩ := hn
  go_enter Try.func41, Try.ntmps41
  go_wp2_with fail
  go_loopw [3, 4] (fun o i wr => ∃ k : Nat, k ≤ (2 * n - 1).toNat ∧ i = .int .i64 (n + 1 + k) ∧ OwnRows w.heap.size wr.heap.size wr o (rootsTo n k) ∧ Later w wr) (fun _ i _ => 200 - (intOf i).toNat)
  case atStart => exact ⟨0, Nat.zero_le _, by simp, OwnRows.noneH _ _ _, Later.refl w⟩
  case round =>
    obtain ⟨k, hk, rfl, hO, hL⟩ := hrel
    have HO := hid hO
    have HL := hid hL
    obtain ⟨b, hb⟩ : ∃ b : Int, n + 1 + (k : Int) = b := ⟨_, rfl⟩
    rw [hb]
    by_cases hlt : b < 3 * n
    · have HSU := hid (rootsTo_succ n k)
      rw [hb] at HSU
      have HT0 := hid (show rootsTo n k ++ rootsC n b 4000 b = rootsTo n (k + 1) by rw [HSU.out]; rfl)
      have HLN := hid (rootsTo_len n (k + 1))
      obtain ⟨T, hT⟩ : ∃ T, rootsTo n (k + 1) = T := ⟨_, rfl⟩
      have HTT := hid hT
      rw [hT] at HT0 HLN
      have HLN2 := hid (show T.length ≤ 1000000 by have := HLN.out; omega)
      have hb1 : n < b := by omega
      have hb2 : b ≤ 90 := by omega
      have HK := hid hk
      have HB := hid hb
      clear hO hL hT hb HSU HLN hk
      go_wp2_with fail
      go_loopw [3, 5] (fun o i wi => ∃ (j : Nat) (P : List (List Int)), j ≤ 3600 ∧ i = .int .i64 (b + j) ∧ P ++ rootsC n b (4000 - j) (b + j) = T ∧ OwnRows w.heap.size wi.heap.size wi o P ∧ Later w wi) (fun _ i _ => 5000 - (intOf i).toNat)
      case atStart => exact ⟨0, rootsTo n k, by omega, by simp, by simpa using HT0.out, HO.out, HL.out⟩
      case round =>
        clear HO HL HT0
        obtain ⟨j, P, hj, rfl, hP, hO, hL⟩ := hrel
        have HO := hid hO
        have HL := hid hL
        have HPT := hid hP
        have hpl : P.length ≤ 1000000 := by have := HLN2.out; rw [← hP, List.length_append] at this; omega
        obtain ⟨c, hc⟩ : ∃ c : Int, b + (j : Int) = c := ⟨_, rfl⟩
        obtain ⟨m, hm⟩ : ∃ m, 4000 - j = m + 1 := ⟨3999 - j, by omega⟩
        rw [hc, hm] at HPT
        rw [hc]
        have hbc : b ≤ c := by omega
        have hc1 : c ≤ 3690 := by omega
        have HC := hid hc
        have HM := hid hm
        obtain ⟨y1, y2⟩ := prodQ (X := 90) (Y := 3690) (show 0 ≤ b ∧ b ≤ 90 by omega) (show 0 ≤ c ∧ c ≤ 3690 by omega)
        obtain ⟨y3, y4⟩ := prodQ (X := 30) (Y := 3780) (show 0 ≤ n ∧ n ≤ 30 by omega) (show 0 ≤ b + c ∧ b + c ≤ 3780 by omega)
        obtain ⟨y5, y6⟩ := prodQ (X := 90) (Y := 90) (show 0 ≤ b - n ∧ b - n ≤ 90 by omega) (show 0 ≤ b - n ∧ b - n ≤ 90 by omega)
        obtain ⟨S, hS⟩ : ∃ S, b * c - n * (b + c) = S := ⟨_, rfl⟩
        have hSb : -200000 ≤ S ∧ S ≤ 400000 := by omega
        obtain ⟨t1, t2⟩ := hSb
        have HS := hid hS
        have w1 : IntKind.i64.wrap (b * c - n * (b + c)) = S := by rw [hS, IntWalk.i64_left]; exact IntWalk.wrap64_in _ (by omega)
        clear hO hL hP hc hm hS
        by_cases hin : 4 * c * (b - n) ≤ (b + n) * (b + n)
        · have hbq : 4 * S ≤ (b - n) * (b - n) := by rw [← HS.out]; exact (bound_eq n b c).1 hin
          have hc3 := tried_bd ⟨hn1, hn2⟩ ⟨hb1, by omega⟩ hbc hin
          have HST := hid (rootsC_step n b c m hin)
          have HPT2 := hid (show (P ++ rootAt n b c) ++ rootsC n b m (c + 1) = T by rw [List.append_assoc, ← HST.out]; exact HPT.out)
          have HJ := hid (show j + 1 ≤ 3600 by have := HC.out; omega)
          have HIN := hid hin
          have hcut : ¬ (b - n) * (b - n) < 4 * S := by omega
          clear hin hbq
          by_cases hneg : S < 0
          · have HR0 := hid (show rootAt n b c = [] from rootAt_no (tried_neg (by rw [HS.out]; exact hneg)))
            go_wp2_with fail
            go_roundw
            case rel => exact ⟨j + 1, P, HJ.out, by have := HC.out; go_num, by rw [show 4000 - (j + 1) = m by have := HM.out; omega, show b + ((j + 1 : Nat) : Int) = c + 1 by have := HC.out; omega]; have := HPT2.out; rw [HR0.out, List.append_nil] at this; exact this, HO.out, HL.out⟩
            case measure => simp [intOf]; have := HC.out; omega
          · obtain ⟨s, rfl⟩ : ∃ s : Nat, S = (s : Int) := ⟨S.toNat, by omega⟩
            have hs4 : s ≤ 400000 := by omega
            have hrz : rootZ (b * c - n * (b + c)) = (rootN s : Int) := by rw [HS.out]; rfl
            have hrs := (rootN_spec s).1
            obtain ⟨r, hr⟩ : ∃ r, rootN s = r := ⟨_, rfl⟩
            have HFR := hid (fun (w0 : World) => show Calls Try.prog 58 #[.int .i64 s] w0 fun e w' => e = .returned (.int .i64 (r : Nat)) ∧ w' = w0 from (hr ▸ foRoot_any s w0 (by omega) : Calls Try.prog 58 #[.int .i64 s] w0 fun e w' => e = .returned (.int .i64 (r : Nat)) ∧ w0 = w').mono fun _ _ h => ⟨h.1, h.2.symm⟩)
            rw [hr] at hrz hrs
            have hr6 : r ≤ 640 := by
              rcases Nat.lt_or_ge 640 r with h | h
              · have := Nat.mul_le_mul (show 641 ≤ r by omega) (show 641 ≤ r by omega); omega
              · exact h
            have q1 : (0 : Int) ≤ (r : Int) * (r : Int) := by rw [← Int.natCast_mul]; omega
            have q2 : (r : Int) * (r : Int) ≤ 400000 := by rw [← Int.natCast_mul]; omega
            have HRZ := hid hrz
            obtain ⟨D, hD⟩ : ∃ D, b + c - n - 2 * (r : Int) = D := ⟨_, rfl⟩
            have HTR := hid (show triedQ n b c r = [-n, b, c, D] by unfold triedQ; rw [hD])
            have HRA := hid (show rootAt n b c = if apB [-n, b, c, D] = true ∧ gcdL [-n, b, c, D] = 1 then [[-n, b, c, D]] else [] by unfold rootAt; rw [hrz, HTR.out])
            have HNS := hid (fun (h : (r : Int) * (r : Int) ≠ (s : Int)) => show rootAt n b c = [] from rootAt_no (tried_nosq (by rw [HRZ.out, HS.out]; exact h)))
            clear hr hrz hrs
            go_wp2_with fail
            refine (HFR.out _).mono ?_
            rintro e wi ⟨rfl, rfl⟩
            have hA := Later.alloc wi (.cells #[.int .i64 (-n), .int .i64 b, .int .i64 c, .int .i64 D] 3)
            have HOF := hid (ownsFour wi (-n) b c D)
            have HOB := hid (HO.out.later hA)
            have HOA := hid (HOB.out.wide (Nat.le_refl _) hA.size)
            have HLA := hid (HL.out.trans hA)
            have HSZ := hid (show (wi.alloc (.cells #[.int .i64 (-n), .int .i64 b, .int .i64 c, .int .i64 D] 3)).heap.size = wi.heap.size + 1 by simp)
            have HWW := hid (show w.heap.size ≤ wi.heap.size from HL.out.size)
            have w2 : IntKind.i64.wrap (b + c - n - 2 * (r : Int)) = D := by rw [hD, IntWalk.i64_left]; exact IntWalk.wrap64_in _ (by omega)
            clear hA hD
            by_cases hsq : (r : Int) * (r : Int) = (s : Int)
            · have hbe : ((r : Int) * (r : Int) == (s : Int)) = true := by simp [hsq]
              cases hap : apB [-n, b, c, D]
              · have HAP := hid hap
                have HR0 := hid (show rootAt n b c = [] by rw [HRA.out, hap]; simp)
                clear hap hsq
                go_wp2_with fail
                generalize wi.alloc (.cells #[.int .i64 (-n), .int .i64 b, .int .i64 c, .int .i64 D] 3) = w3 at HOF HOB HOA HLA HSZ ⊢
                refine (apGood_as _ _ _ _ HAP.out HOF.out.ints).mono ?_
                rintro e w' ⟨rfl, rfl⟩
                go_wp2_with fail
                go_roundw
                case rel => exact ⟨j + 1, P, HJ.out, by have := HC.out; go_num, by rw [show 4000 - (j + 1) = m by have := HM.out; omega, show b + ((j + 1 : Nat) : Int) = c + 1 by have := HC.out; omega]; have := HPT2.out; rw [HR0.out, List.append_nil] at this; exact this, HOA.out, HLA.out⟩
                case measure => simp [intOf]; have := HC.out; omega
              · have HAP := hid hap
                have HQD := hid ((apB_iff _ _ _ _).1 hap)
                by_cases hg1 : gcdL [-n, b, c, D] = 1
                · have HR1 := hid (show rootAt n b c = [[-n, b, c, D]] by rw [HRA.out, if_pos ⟨hap, hg1⟩])
                  have HG1 := hid hg1
                  clear hap hsq hg1
                  go_wp2_with fail
                  generalize wi.alloc (.cells #[.int .i64 (-n), .int .i64 b, .int .i64 c, .int .i64 D] 3) = w3 at HOF HOB HOA HLA HSZ ⊢
                  refine (apGood_as _ _ _ _ HAP.out HOF.out.ints).mono ?_
                  rintro e w' ⟨rfl, rfl⟩
                  go_wp2_with fail
                  refine (apScale_any _ _ _ _ _ _ HQD.out HOF.out.ints).mono ?_
                  rintro e w4 ⟨rfl, hL4⟩
                  rw [HG1.out]
                  have HO4 := hid (HOF.out.later hL4)
                  have HP4 := hid (HOB.out.later hL4)
                  have HL4 := hid (HLA.out.trans hL4)
                  have HS4 := hid hL4.size
                  clear hL4 HOF HOA HLA
                  obtain ⟨us, hul, hus, hub, hin', hdis⟩ := HP4.out.partsH
                  obtain ⟨o1, o2, rfl, _⟩ := HP4.out.shape
                  have HIN := hid hin'
                  have HDI := hid hdis
                  have hown4 := hid (hus.alloc (.cells #[.slice (some ⟨wi.heap.size, 0, none⟩) 4 4] 22))
                  have hlu : us.length ≤ 1000000 := by omega
                  have HUL := hid hul
                  clear hus hin' hdis hub
                  go_wp2_with (at_builtin; refine wpList_append_lies _ (by rfl) _ _ _ (by rfl) w.heap.size 22 i0 (.slice none 0 0) 1 24 Try.underlying23 hi hz0 hz1 hz2 rfl (by omega) _ us.length us (by rfl) (by exact hown4.out) ⟨w4.heap.size, 0, none⟩ 1 1 [.slice (some ⟨wi.heap.size, 0, none⟩) 4 4] (by rfl) (by rfl) (World.news_of_block (cs := #[.slice (some ⟨wi.heap.size, 0, none⟩) 4 4]) (t := 22) (fr := (0, 0)) (heap_alloc_new w4 _)) (by simp [Value.oneCell']) (by omega) (by unfold maxLen; omega) (by omega) (by have := HL4.out.size; simp; omega) (w4.heap.size + 1) (by simp) ?_)
                  intro g' cap1 w7 hown7 hgrow hat hglt
                  have hA := Later.alloc w4 (.cells #[.slice (some ⟨wi.heap.size, 0, none⟩) 4 4] 22)
                  have HU4 := hid (show OwnInts wi.heap.size (w4.alloc (.cells #[.slice (some ⟨wi.heap.size, 0, none⟩) 4 4] 22)).heap.size (w4.alloc (.cells #[.slice (some ⟨wi.heap.size, 0, none⟩) 4 4] 22)) (.slice (some ⟨wi.heap.size, 0, none⟩) 4 4) [-n, b, c, D] from (HO4.out.later hA).wide (Nat.le_refl _) (by have h1 := HSZ.out; have h2 := HS4.out; simp; omega))
                  have HP := hid (OwnRows.pushed (h0 := wi.heap.size) HUL.out hown4.out (fun i hi => ((HIN.out i hi).later hA)) HDI.out HU4.out HWW.out (by rw [HUL.out]; exact hown7) hgrow)
                  have HL7 := hid (show Later w w7 from (HL4.out.trans hA).grown hgrow (by have := HL4.out.size; simp; omega) (fun b hb => (hown4.out.lt b hb).1))
                  clear hown7 hgrow hat hA
                  go_wp2_with fail
                  go_roundw
                  case rel => exact ⟨j + 1, P ++ [[-n, b, c, D]], HJ.out, by have := HC.out; go_num, by rw [show 4000 - (j + 1) = m by have := HM.out; omega, show b + ((j + 1 : Nat) : Int) = c + 1 by have := HC.out; omega, ← HR1.out]; exact HPT2.out, by simpa using HP.out, HL7.out⟩
                  case measure => simp [intOf]; have := HC.out; omega
                · have HR0 := hid (show rootAt n b c = [] by rw [HRA.out, if_neg (fun h => hg1 h.2)])
                  obtain ⟨G, hG⟩ : ∃ G, gcdL [-n, b, c, D] = G := ⟨_, rfl⟩
                  have hgb : (G == 1) = false := by rw [← hG]; simp [hg1]
                  have HGG := hid hG
                  clear hap hsq hg1 hG
                  go_wp2_with fail
                  generalize wi.alloc (.cells #[.int .i64 (-n), .int .i64 b, .int .i64 c, .int .i64 D] 3) = w3 at HOF HOB HOA HLA HSZ ⊢
                  refine (apGood_as _ _ _ _ HAP.out HOF.out.ints).mono ?_
                  rintro e w' ⟨rfl, rfl⟩
                  go_wp2_with fail
                  refine (apScale_any _ _ _ _ _ _ HQD.out HOF.out.ints).mono ?_
                  rintro e w4 ⟨rfl, hL4⟩
                  rw [HGG.out]
                  have HP4 := hid ((HOA.out.later hL4).wide (Nat.le_refl _) hL4.size)
                  have HL4 := hid (HLA.out.trans hL4)
                  clear hL4 HOF HOA HLA
                  go_wp2_with fail
                  go_roundw
                  case rel => exact ⟨j + 1, P, HJ.out, by have := HC.out; go_num, by rw [show 4000 - (j + 1) = m by have := HM.out; omega, show b + ((j + 1 : Nat) : Int) = c + 1 by have := HC.out; omega]; have := HPT2.out; rw [HR0.out, List.append_nil] at this; exact this, HP4.out, HL4.out⟩
                  case measure => simp [intOf]; have := HC.out; omega
            · have hbe : ((r : Int) * (r : Int) == (s : Int)) = false := by simp [hsq]
              have HR0 := hid (HNS.out hsq)
              clear hsq
              go_wp2_with fail
              go_roundw
              case rel => exact ⟨j + 1, P, HJ.out, by have := HC.out; go_num, by rw [show 4000 - (j + 1) = m by have := HM.out; omega, show b + ((j + 1 : Nat) : Int) = c + 1 by have := HC.out; omega]; have := HPT2.out; rw [HR0.out, List.append_nil] at this; exact this, HOA.out, HLA.out⟩
              case measure => simp [intOf]; have := HC.out; omega
        · have hbq : (b - n) * (b - n) < 4 * S := by
            have h2 : ¬ 4 * S ≤ (b - n) * (b - n) := fun h => hin ((bound_eq n b c).2 (by rw [HS.out]; exact h))
            omega
          have HE := hid (show P = rootsTo n (k + 1) by have := HPT.out; rw [rootsC_stop n b c m hin, List.append_nil] at this; rw [this, HTT.out])
          clear hin
          go_wp2_with fail
          go_roundw
          case rel => exact ⟨k + 1, by have := HB.out; omega, by have := HB.out; go_num, by rw [← HE.out]; exact HO.out, HL.out⟩
          case measure => simp [intOf]; omega
    · have HE := hid (show rootsTo n k = rootsN n by rw [show k = (2 * n - 1).toNat by omega]; rfl)
      go_wp2_with fail
      go_ret
      exact ⟨_, rfl, by rw [← HE.out]; exact HO.out, HL.out⟩


def rootsAns (n : Int) : Option (List (List Int)) := if within 1 30 n = true then some (rootsN n) else none
theorem within130 {n : Int} : within 1 30 n = true ↔ 1 ≤ n ∧ n ≤ 30 := by simp [within]
set_option maxRecDepth 20000 in
set_option maxHeartbeats 2000000 in
theorem specRootsWith_any (n : Int) (w : World) :
    Calls Try.prog 22 #[.int .i64 n] w fun e w' => RowsAns w (rootsAns n) e w' := by
  cases hn : within 1 30 n
  · have HN := hid hn
    have HA := hid (show rootsAns n = none by unfold rootsAns; rw [hn]; simp)
    clear hn
    go_enter Try.func22, Try.ntmps22
    go_wp2_with fail
    refine (l1In_as _ _ _ _ _ HN.out).mono ?_
    rintro e w' ⟨rfl, rfl⟩
    go_wp2_with fail
    go_ret2
    rw [HA.out]
    exact ⟨_, rfl, OwnRows.noneH _ _ _, Later.refl _⟩
  · have HN := hid hn
    have HA := hid (show rootsAns n = some (rootsN n) by unfold rootsAns; rw [if_pos hn])
    have HB := hid (within130.1 hn)
    clear hn
    go_enter Try.func22, Try.ntmps22
    go_wp2_with fail
    refine (l1In_as _ _ _ _ _ HN.out).mono ?_
    rintro e w' ⟨rfl, rfl⟩
    go_wp2_with fail
    refine (apRoots_any n _ HB.out).mono ?_
    rintro e w2 ⟨v2, rfl, ho, hL⟩
    have HO := hid ho
    have HL := hid hL
    obtain ⟨a2, c2, rfl, _⟩ := ho.shape
    clear ho hL
    go_wp2_with fail
    go_ret2
    rw [HA.out]
    exact ⟨_, rfl, HO.out, HL.out⟩


theorem setP_far (w : World) (B b : Nat) (p q r s t : Value) (h : b ≠ B) :
    (((((w.setCell ⟨B, 0, none⟩ p).setCell ⟨B, 1, none⟩ q).setCell ⟨B, 2, none⟩ r).setCell ⟨B, 3, none⟩ s).setCell ⟨B, 4, none⟩ t).heap[b]? = w.heap[b]? := by
  rw [heap_setCell_other _ _ b _ h, heap_setCell_other _ _ b _ h, heap_setCell_other _ _ b _ h, heap_setCell_other _ _ b _ h, heap_setCell_other _ _ b _ h]
theorem setP_cell {w : World} {B b k : Nat} {v : Value} (p q r s t : Value) (h : b ≠ B) (hc : w.cell? ⟨b, k, none⟩ = some v) :
    (((((w.setCell ⟨B, 0, none⟩ p).setCell ⟨B, 1, none⟩ q).setCell ⟨B, 2, none⟩ r).setCell ⟨B, 3, none⟩ s).setCell ⟨B, 4, none⟩ t).cell? ⟨b, k, none⟩ = some v :=
  cell_keep hc (setP_far w B b p q r s t h)
theorem setP_later {w0 w : World} {B : Nat} (h : Later w0 w) (hB : w0.heap.size ≤ B) (p q r s t : Value) :
    Later w0 (((((w.setCell ⟨B, 0, none⟩ p).setCell ⟨B, 1, none⟩ q).setCell ⟨B, 2, none⟩ r).setCell ⟨B, 3, none⟩ s).setCell ⟨B, 4, none⟩ t) :=
  Below.setCell (Below.setCell (Below.setCell (Below.setCell (Below.setCell h hB _) hB _) hB _) hB _) hB _
/-- Five cells of block B: a quad and a number. -/
structure QPack (w : World) (B : Nat) (a b c d g : Int) : Prop where
  c0 : w.cell? ⟨B, 0, none⟩ = some (.int .i64 a)
  c1 : w.cell? ⟨B, 1, none⟩ = some (.int .i64 b)
  c2 : w.cell? ⟨B, 2, none⟩ = some (.int .i64 c)
  c3 : w.cell? ⟨B, 3, none⟩ = some (.int .i64 d)
  c4 : w.cell? ⟨B, 4, none⟩ = some (.int .i64 g)
theorem setP_all {w : World} {B : Nat} {v0 v1 v2 v3 v4 : Value} (h0 : w.cell? ⟨B, 0, none⟩ = some v0) (h1 : w.cell? ⟨B, 1, none⟩ = some v1) (h2 : w.cell? ⟨B, 2, none⟩ = some v2) (h3 : w.cell? ⟨B, 3, none⟩ = some v3) (h4 : w.cell? ⟨B, 4, none⟩ = some v4) (a b c d g : Int) :
    QPack (((((w.setCell ⟨B, 0, none⟩ (.int .i64 a)).setCell ⟨B, 1, none⟩ (.int .i64 b)).setCell ⟨B, 2, none⟩ (.int .i64 c)).setCell ⟨B, 3, none⟩ (.int .i64 d)).setCell ⟨B, 4, none⟩ (.int .i64 g)) B a b c d g := by
  have o : ∀ (w : World) (i j : Nat) (u : Value), i ≠ j → (w.setCell ⟨B, i, none⟩ u).cell? ⟨B, j, none⟩ = w.cell? ⟨B, j, none⟩ := fun w i j u h => World.cell?_setCell_other _ _ _ _ (by intro e; injection e with _ e2; exact h e2)
  refine ⟨?_, ?_, ?_, ?_, ?_⟩
  · rw [o _ 4 0 _ (by omega), o _ 3 0 _ (by omega), o _ 2 0 _ (by omega), o _ 1 0 _ (by omega)]; exact World.cell?_setCell_same _ _ _ h0
  · rw [o _ 4 1 _ (by omega), o _ 3 1 _ (by omega), o _ 2 1 _ (by omega)]; exact World.cell?_setCell_same _ _ _ (by rw [o _ 0 1 _ (by omega)]; exact h1)
  · rw [o _ 4 2 _ (by omega), o _ 3 2 _ (by omega)]; exact World.cell?_setCell_same _ _ _ (by rw [o _ 1 2 _ (by omega), o _ 0 2 _ (by omega)]; exact h2)
  · rw [o _ 4 3 _ (by omega)]; exact World.cell?_setCell_same _ _ _ (by rw [o _ 2 3 _ (by omega), o _ 1 3 _ (by omega), o _ 0 3 _ (by omega)]; exact h3)
  · exact World.cell?_setCell_same _ _ _ (by rw [o _ 3 4 _ (by omega), o _ 2 4 _ (by omega), o _ 1 4 _ (by omega), o _ 0 4 _ (by omega)]; exact h4)
theorem wayQ_root {zs : List Int} (h : lastQ zs = true) : wayQ zs = [zs] := by unfold wayQ; rw [belowQ_last h]
set_option maxRecDepth 20000 in
set_option maxHeartbeats 4000000 in
theorem packing_any (a b c d : Int) (w : World) (hq : QD a b c d) (hl : lastQ [a, b, c, d] = true) (hs : sortQ [a, b, c, d] = [a, b, c, d]) :
    Calls Try.prog 61 #[.agg #[.int .i64 a, .int .i64 b, .int .i64 c, .int .i64 d]] w fun e w' => e = .returned (.agg #[.int .i64 a, .int .i64 b, .int .i64 c, .int .i64 d, .int .i64 (gcdL [a, b, c, d])]) ∧ Later w w' := by
  have hA := Later.alloc w (.cells #[.int .i64 a, .int .i64 b, .int .i64 c, .int .i64 d] 48)
  have hA2 := Later.alloc (w.alloc (.cells #[.int .i64 a, .int .i64 b, .int .i64 c, .int .i64 d] 48)) (.cells #[.int .i64 0, .int .i64 0, .int .i64 0, .int .i64 0, .int .i64 0] 72)
  have HB := hid ((QBox.new w a b c d).later hA2)
  have HL := hid (hA.trans hA2)
  have hR : (w.alloc (.cells #[.int .i64 a, .int .i64 b, .int .i64 c, .int .i64 d] 48)).heap.size = w.heap.size + 1 := by simp
  have rr0 : ((w.alloc (.cells #[.int .i64 a, .int .i64 b, .int .i64 c, .int .i64 d] 48)).alloc (.cells #[.int .i64 0, .int .i64 0, .int .i64 0, .int .i64 0, .int .i64 0] 72)).cell? ⟨w.heap.size + 1, 0, none⟩ = some (.int .i64 0) := by rw [← hR]; simp [go_sem]
  have rr1 : ((w.alloc (.cells #[.int .i64 a, .int .i64 b, .int .i64 c, .int .i64 d] 48)).alloc (.cells #[.int .i64 0, .int .i64 0, .int .i64 0, .int .i64 0, .int .i64 0] 72)).cell? ⟨w.heap.size + 1, 1, none⟩ = some (.int .i64 0) := by rw [← hR]; simp [go_sem]
  have rr2 : ((w.alloc (.cells #[.int .i64 a, .int .i64 b, .int .i64 c, .int .i64 d] 48)).alloc (.cells #[.int .i64 0, .int .i64 0, .int .i64 0, .int .i64 0, .int .i64 0] 72)).cell? ⟨w.heap.size + 1, 2, none⟩ = some (.int .i64 0) := by rw [← hR]; simp [go_sem]
  have rr3 : ((w.alloc (.cells #[.int .i64 a, .int .i64 b, .int .i64 c, .int .i64 d] 48)).alloc (.cells #[.int .i64 0, .int .i64 0, .int .i64 0, .int .i64 0, .int .i64 0] 72)).cell? ⟨w.heap.size + 1, 3, none⟩ = some (.int .i64 0) := by rw [← hR]; simp [go_sem]
  have rr4 : ((w.alloc (.cells #[.int .i64 a, .int .i64 b, .int .i64 c, .int .i64 d] 48)).alloc (.cells #[.int .i64 0, .int .i64 0, .int .i64 0, .int .i64 0, .int .i64 0] 72)).cell? ⟨w.heap.size + 1, 4, none⟩ = some (.int .i64 0) := by rw [← hR]; simp [go_sem]
  have rf0 : ((w.alloc (.cells #[.int .i64 a, .int .i64 b, .int .i64 c, .int .i64 d] 48)).alloc (.cells #[.int .i64 0, .int .i64 0, .int .i64 0, .int .i64 0, .int .i64 0] 72)).frozen? ⟨w.heap.size + 1, 0, none⟩ = false := by rw [← hR]; simp [go_sem]
  have rf1 : ((w.alloc (.cells #[.int .i64 a, .int .i64 b, .int .i64 c, .int .i64 d] 48)).alloc (.cells #[.int .i64 0, .int .i64 0, .int .i64 0, .int .i64 0, .int .i64 0] 72)).frozen? ⟨w.heap.size + 1, 1, none⟩ = false := by rw [← hR]; simp [go_sem]
  have rf2 : ((w.alloc (.cells #[.int .i64 a, .int .i64 b, .int .i64 c, .int .i64 d] 48)).alloc (.cells #[.int .i64 0, .int .i64 0, .int .i64 0, .int .i64 0, .int .i64 0] 72)).frozen? ⟨w.heap.size + 1, 2, none⟩ = false := by rw [← hR]; simp [go_sem]
  have rf3 : ((w.alloc (.cells #[.int .i64 a, .int .i64 b, .int .i64 c, .int .i64 d] 48)).alloc (.cells #[.int .i64 0, .int .i64 0, .int .i64 0, .int .i64 0, .int .i64 0] 72)).frozen? ⟨w.heap.size + 1, 3, none⟩ = false := by rw [← hR]; simp [go_sem]
  have rf4 : ((w.alloc (.cells #[.int .i64 a, .int .i64 b, .int .i64 c, .int .i64 d] 48)).alloc (.cells #[.int .i64 0, .int .i64 0, .int .i64 0, .int .i64 0, .int .i64 0] 72)).frozen? ⟨w.heap.size + 1, 4, none⟩ = false := by rw [← hR]; simp [go_sem]
  have HW := hid (wayQ_root hl)
  have HQ := hid hq
  obtain ⟨G, hG⟩ : ∃ G, gcdL [a, b, c, d] = G := ⟨_, rfl⟩
  have HSC := hid (fun (w0 : World) => show Calls Try.prog 73 #[.agg #[.int .i64 a, .int .i64 b, .int .i64 c, .int .i64 d]] w0 fun e w' => e = .returned (.int .i64 G) ∧ Later w0 w' from hG ▸ scaleS_any a b c d w0 hq)
  have HSO := hid (fun (w0 : World) => show Calls Try.prog 38 #[.agg #[.int .i64 a, .int .i64 b, .int .i64 c, .int .i64 d]] w0 fun e w' => e = .returned (.agg #[.int .i64 a, .int .i64 b, .int .i64 c, .int .i64 d]) ∧ Later w0 w' from (sortedS_any a b c d w0).mono (fun e w' hh => by
    obtain ⟨p', q', r', s', h1, h2, h3⟩ := hh
    rw [hs] at h1
    simp only [List.cons.injEq, and_true] at h1
    obtain ⟨rfl, rfl, rfl, rfl⟩ := h1
    exact ⟨h2, h3⟩))
  rw [hG]
  clear hA hA2 hq hl hs hG hR
  go_enter Try.func61, Try.ntmps61
  go_upto_region 1 with fail
  generalize (w.alloc (.cells #[.int .i64 a, .int .i64 b, .int .i64 c, .int .i64 d] 48)).alloc (.cells #[.int .i64 0, .int .i64 0, .int .i64 0, .int .i64 0, .int .i64 0] 72) = w1 at HB HL rr0 rr1 rr2 rr3 rr4 rf0 rf1 rf2 rf3 rf4 ⊢
  obtain ⟨B, hB⟩ : ∃ B, w.heap.size = B := ⟨_, rfl⟩
  have HBW := hid (show w.heap.size ≤ B by omega)
  rw [hB] at HB rr0 rr1 rr2 rr3 rr4 rf0 rf1 rf2 rf3 rf4 ⊢
  clear hB
  obtain ⟨R, hRR⟩ : ∃ R, B + 1 = R := ⟨_, rfl⟩
  have HRB := hid hRR
  rw [hRR] at rr0 rr1 rr2 rr3 rr4 rf0 rf1 rf2 rf3 rf4 ⊢
  clear hRR
  obtain ⟨c0, c1, c2, c3, _, _, _, _⟩ := HB.out
  go_wp2_with fail
  refine (downPathS_any a b c d w1 HQ.out).mono ?_
  rintro e w3 ⟨v3, L, rfl, ho, hm, hL3⟩
  rw [HW.out] at hm
  have hLe : L = [(a, b, c, d)] := by
    match L, hm with
    | [s], hm =>
      obtain ⟨p', q', r', s'⟩ := s
      simp [qsL] at hm
      obtain ⟨rfl, rfl, rfl, rfl⟩ := hm
      rfl
  subst hLe
  obtain ⟨_, _, e1, _, hcs⟩ := ho.qs (by simp)
  obtain ⟨g, hgg, d0, d1, d2, d3⟩ := hcs 0 (by simp)
  have hgl := fun hh => (ho.lt g hh).1
  subst hgg
  subst e1
  have hgl2 : w1.heap.size ≤ g := hgl rfl
  have y0 := hL3.cell c0
  have y1 := hL3.cell c1
  have y2 := hL3.cell c2
  have y3 := hL3.cell c3
  have hRl : R < w1.heap.size := World.block_lt_of_cell? w1 ⟨R, 0, none⟩ rr0
  have xb : B ≠ R := by have := HRB.out; omega
  have xg : g ≠ R := by omega
  replace rf0 := hL3.frozen rr0 rf0
  replace rf1 := hL3.frozen rr1 rf1
  replace rf2 := hL3.frozen rr2 rf2
  replace rf3 := hL3.frozen rr3 rf3
  replace rf4 := hL3.frozen rr4 rf4
  replace rr0 := hL3.cell rr0
  replace rr1 := hL3.cell rr1
  replace rr2 := hL3.cell rr2
  replace rr3 := hL3.cell rr3
  replace rr4 := hL3.cell rr4
  have HL3 := hid (HL.out.trans hL3)
  have y4 : w3.cell? ⟨g, 0, none⟩ = some (.int .i64 a) := d0
  have y5 : w3.cell? ⟨g, 1, none⟩ = some (.int .i64 b) := d1
  have y6 : w3.cell? ⟨g, 2, none⟩ = some (.int .i64 c) := d2
  have y7 : w3.cell? ⟨g, 3, none⟩ = some (.int .i64 d) := d3
  have TK := hid (show (0 : Nat) = 0 from rfl)
  clear ho hm hL3 hcs hgl d0 d1 d2 d3 c0 c1 c2 c3 hRl hgl2
  simp only [List.length_singleton]
  have lw1 : IntKind.i64.wrap ((1 : Int) - 1) = 0 := by decide
  have lw2 : (0 : Int) < 1 := by decide
  have lw3 : (0 : Int) ≤ 0 := by decide
  have lw4 : (0 : Int).toNat = 0 := by decide
  have lw5 : IntKind.i64.wrap 0 = 0 := by decide
  go_wp2_with fail
  go_region_held3 (fun w' => w'.cell? ⟨B, 0, none⟩ = some (.int .i64 a) ∧ w'.cell? ⟨B, 1, none⟩ = some (.int .i64 b) ∧ w'.cell? ⟨B, 2, none⟩ = some (.int .i64 c) ∧ w'.cell? ⟨B, 3, none⟩ = some (.int .i64 d) ∧ w'.cell? ⟨g, 0, none⟩ = some (.int .i64 a) ∧ w'.cell? ⟨g, 1, none⟩ = some (.int .i64 b) ∧ w'.cell? ⟨g, 2, none⟩ = some (.int .i64 c) ∧ w'.cell? ⟨g, 3, none⟩ = some (.int .i64 d)) (first | with_reducible exact ⟨y0, y1, y2, y3, y4, y5, y6, y7⟩ | with_reducible exact ⟨z0, z1, z2, z3, z4, z5, z6, z7⟩ | with_reducible exact ⟨u0, u1, u2, u3, u4, u5, u6, u7⟩ | with_reducible exact ⟨setP_cell _ _ _ _ _ (xb) u0, setP_cell _ _ _ _ _ (xb) u1, setP_cell _ _ _ _ _ (xb) u2, setP_cell _ _ _ _ _ (xb) u3, setP_cell _ _ _ _ _ (xg) u4, setP_cell _ _ _ _ _ (xg) u5, setP_cell _ _ _ _ _ (xg) u6, setP_cell _ _ _ _ _ (xg) u7⟩ | go_keep) (first | (go_at_call 38; first | (have hh := TK; clear hh; with_reducible refine (HSO.out w3.drew).mono ?_; rintro e w6 ⟨rfl, hL6⟩; have hL6' := (Later.drew w3).trans hL6; have z0 := hL6'.cell y0; have z1 := hL6'.cell y1; have z2 := hL6'.cell y2; have z3 := hL6'.cell y3; have z4 := hL6'.cell y4; have z5 := hL6'.cell y5; have z6 := hL6'.cell y6; have z7 := hL6'.cell y7; have H6 := hid hL6'; have m0 := hL6'.cell rr0; have m1 := hL6'.cell rr1; have m2 := hL6'.cell rr2; have m3 := hL6'.cell rr3; have m4 := hL6'.cell rr4; have h0 := hL6'.frozen rr0 rf0; have h1 := hL6'.frozen rr1 rf1; have h2 := hL6'.frozen rr2 rf2; have h3 := hL6'.frozen rr3 rf3; have h4 := hL6'.frozen rr4 rf4; clear hL6 hL6' TK) | (with_reducible refine (HSO.out w6).mono ?_; rintro e w7 ⟨rfl, hL7⟩; have hL7' := H6.out.trans hL7; have u0 := hL7'.cell y0; have u1 := hL7'.cell y1; have u2 := hL7'.cell y2; have u3 := hL7'.cell y3; have u4 := hL7'.cell y4; have u5 := hL7'.cell y5; have u6 := hL7'.cell y6; have u7 := hL7'.cell y7; have n0 := hL7'.cell rr0; have n1 := hL7'.cell rr1; have n2 := hL7'.cell rr2; have n3 := hL7'.cell rr3; have n4 := hL7'.cell rr4; have k0 := hL7'.frozen rr0 rf0; have k1 := hL7'.frozen rr1 rf1; have k2 := hL7'.frozen rr2 rf2; have k3 := hL7'.frozen rr3 rf3; have k4 := hL7'.frozen rr4 rf4; have H7 := hid hL7'; clear hL7 hL7')) | (go_at_call 73; first | (have hh := TK; clear hh; with_reducible refine (HSC.out w3.drew).mono ?_; rintro e w6 ⟨rfl, hL6⟩; have hL6' := (Later.drew w3).trans hL6; have z0 := hL6'.cell y0; have z1 := hL6'.cell y1; have z2 := hL6'.cell y2; have z3 := hL6'.cell y3; have z4 := hL6'.cell y4; have z5 := hL6'.cell y5; have z6 := hL6'.cell y6; have z7 := hL6'.cell y7; have H6 := hid hL6'; have m0 := hL6'.cell rr0; have m1 := hL6'.cell rr1; have m2 := hL6'.cell rr2; have m3 := hL6'.cell rr3; have m4 := hL6'.cell rr4; have h0 := hL6'.frozen rr0 rf0; have h1 := hL6'.frozen rr1 rf1; have h2 := hL6'.frozen rr2 rf2; have h3 := hL6'.frozen rr3 rf3; have h4 := hL6'.frozen rr4 rf4; clear hL6 hL6' TK) | (with_reducible refine (HSC.out w6).mono ?_; rintro e w7 ⟨rfl, hL7⟩; have hL7' := H6.out.trans hL7; have u0 := hL7'.cell y0; have u1 := hL7'.cell y1; have u2 := hL7'.cell y2; have u3 := hL7'.cell y3; have u4 := hL7'.cell y4; have u5 := hL7'.cell y5; have u6 := hL7'.cell y6; have u7 := hL7'.cell y7; have n0 := hL7'.cell rr0; have n1 := hL7'.cell rr1; have n2 := hL7'.cell rr2; have n3 := hL7'.cell rr3; have n4 := hL7'.cell rr4; have k0 := hL7'.frozen rr0 rf0; have k1 := hL7'.frozen rr1 rf1; have k2 := hL7'.frozen rr2 rf2; have k3 := hL7'.frozen rr3 rf3; have k4 := hL7'.frozen rr4 rf4; have H7 := hid hL7'; clear hL7 hL7')))
  all_goals
    have HL8 := hid (setP_later (HL3.out.trans H7.out) (show w.heap.size ≤ R by have := HRB.out; have := HBW.out; omega) (.int .i64 a) (.int .i64 b) (.int .i64 c) (.int .i64 d) (.int .i64 G))
    have HE := hid (show QPack (((((w7.setCell ⟨R, 0, none⟩ (.int .i64 a)).setCell ⟨R, 1, none⟩ (.int .i64 b)).setCell ⟨R, 2, none⟩ (.int .i64 c)).setCell ⟨R, 3, none⟩ (.int .i64 d)).setCell ⟨R, 4, none⟩ (.int .i64 G)) R a b c d G from setP_all n0 n1 n2 n3 n4 a b c d G)
    clear y0 y1 y2 y3 y4 y5 y6 y7 z0 z1 z2 z3 z4 z5 z6 z7 u0 u1 u2 u3 u4 u5 u6 u7 n0 n1 n2 n3 n4 k0 k1 k2 k3 k4 m0 m1 m2 m3 m4 h0 h1 h2 h3 h4 lw1 lw2 lw3 lw4
    generalize (((((w7.setCell ⟨R, 0, none⟩ (.int .i64 a)).setCell ⟨R, 1, none⟩ (.int .i64 b)).setCell ⟨R, 2, none⟩ (.int .i64 c)).setCell ⟨R, 3, none⟩ (.int .i64 d)).setCell ⟨R, 4, none⟩ (.int .i64 G)) = w8 at HE HL8 ⊢
    obtain ⟨e0, e1, e2, e3, e4⟩ := HE.out
    go_wp2_with fail
    refine bodyPost_ret (v := .agg #[.int .i64 a, .int .i64 b, .int .i64 c, .int .i64 d, .int .i64 G]) ?_ rfl ⟨rfl, HL8.out⟩
    rw [results_cellQ rfl]
    go_simp


theorem eqPack (a b c d g h : Int) (w : World) : (Op.equalIn 10000 72 (.agg #[.int .i64 a, .int .i64 b, .int .i64 c, .int .i64 d, .int .i64 g]) (.agg #[.int .i64 a, .int .i64 b, .int .i64 c, .int .i64 d, .int .i64 h])).run Try.prog w = .ok (g == h) w := by
  obtain ⟨i0, hi, hz0, hz1, hz2⟩ := info_parts Try.infoInt
  have hc : Try.prog.cellsOf 3 = 1 := by kernel_rfl
  have u3 := Try.underlying3
  have a3 := Try.isAgg3
  have z3 := Try.sizeOf3
  have uq := Try.underlying48
  rw [show (10000 : Nat) = 9999 + 1 from rfl, run_equalIn_struct w 9999 72 _ _ (by kernel_rfl) (by kernel_rfl)]
  have hfl : (Try.prog.fieldsOf 72).toList = [(Try.prog.fieldsOf 72)[0]!, (Try.prog.fieldsOf 72)[1]!] := by kernel_rfl
  have n0 : ((Try.prog.fieldsOf 72)[0]!).name ≠ "_" := by decide +kernel
  have n1 : ((Try.prog.fieldsOf 72)[1]!).name ≠ "_" := by decide +kernel
  have t0 : ((Try.prog.fieldsOf 72)[0]!).type = 48 := by kernel_rfl
  have t1 : ((Try.prog.fieldsOf 72)[1]!).type = 3 := by kernel_rfl
  have o0 : ((Try.prog.fieldsOf 72)[0]!).offset = 0 := by kernel_rfl
  have o1 : ((Try.prog.fieldsOf 72)[1]!).offset = 4 := by kernel_rfl
  have hq : ∀ w, (Op.equalIn 9999 48 (.agg #[.int .i64 a, .int .i64 b, .int .i64 c, .int .i64 d]) (.agg #[.int .i64 a, .int .i64 b, .int .i64 c, .int .i64 d])).run Try.prog w = .ok true w := by
    intro w
    rw [show (9999 : Nat) = 9998 + 1 from rfl, run_equalIn_array w 9998 _ _ Try.underlying48 hi, hc, show (9998 : Nat) = 9997 + 1 from rfl]
    simp only [List.range_succ, List.range_zero, List.nil_append, List.cons_append]
    simp only [Op.eqItems]
    go_simp
  have hp : ∀ w g, (part 48 #[.int .i64 a, .int .i64 b, .int .i64 c, .int .i64 d, .int .i64 g] 0).run Try.prog w = .ok (.agg #[.int .i64 a, .int .i64 b, .int .i64 c, .int .i64 d]) w := fun w g => by
    go_simp
  have hp1 : ∀ w g, (part 3 #[.int .i64 a, .int .i64 b, .int .i64 c, .int .i64 d, .int .i64 g] 4).run Try.prog w = .ok (.int .i64 g) w := fun w g => by
    go_simp
  have he : ∀ w, (Op.equalIn 9999 3 (.int .i64 g) (.int .i64 h)).run Try.prog w = .ok (g == h) w := fun w => run_equalIn_int w 9998 _ _ _ _ _ u3
  rw [hfl, Op.eqFields, if_pos n0, t0, o0]
  simp only [Sem.run_bind, hp, hq, Result.andThen_ok, Bool.not_true, Bool.false_eq_true, if_false]
  rw [Op.eqFields, if_pos n1, t1, o1]
  simp only [Sem.run_bind, hp1, he, Result.andThen_ok]
  cases g == h
  · simp [Sem.run_pure]
  · simp [Op.eqFields, Sem.run_pure]


theorem rootAns_Z (S : Int) (h : S ≤ 1000000000000000000) : (rootAns S).getD 0 = rootZ S := by
  unfold rootAns
  by_cases h0 : 0 ≤ S
  · rw [if_pos ⟨h0, h⟩]; rfl
  · rw [if_neg (by omega), rootZ_neg (by omega)]; rfl
theorem isOuter_any (n : Int) (w : World) : Calls Try.prog 42 #[.int .i64 n] w fun e w' => e = .returned (.bool (within 1 30 n)) ∧ w = w' := by
  by_cases h1 : 1 ≤ n
  · go_enter Try.func42, Try.ntmps42
    go_wp2_with fail
    go_ret
    exact ⟨ret_bool (by simp [within, h1]), rfl⟩
  · have hb : decide (1 ≤ n) = false := decide_eq_false h1
    go_enter Try.func42, Try.ntmps42
    go_wp2_with fail
    go_ret
    exact ⟨ret_bool (by symm; simp only [within, Bool.and_eq_false_iff, decide_eq_false_iff_not]; omega), rfl⟩
theorem isOuter_as (n : Int) (o : Bool) (w : World) (h : within 1 30 n = o) : Calls Try.prog 42 #[.int .i64 n] w fun e w' => e = .returned (.bool o) ∧ w = w' := by
  subst h; exact isOuter_any n w
theorem OwnQs.none (lo : Nat) (w : World) : OwnQs lo w (.slice none 0 0) [] := World.ownsRow_nil _ _ _ _
def QList (w : World) (R : List (List Int)) (e : Ending) (w' : World) : Prop := ∃ v L, e = .returned v ∧ OwnQs w.heap.size w' v L ∧ L.map qsL = R ∧ Later w w'
set_option maxRecDepth 20000 in
set_option maxHeartbeats 4000000 in
theorem rootsWith_any (n : Int) (w : World) (hn : 1 ≤ n ∧ n ≤ 30) :
    Calls Try.prog 43 #[.int .i64 n] w fun e w' => QList w (rootsN n) e w' := by
  obtain ⟨i0, hi, hz0, hz1, hz2⟩ := info_parts Try.infoQd
  obtain ⟨hn1, hn2⟩ := hn
  have E := hid (fun a b c d g w0 => eqPack a b c d g 1 w0)
  go_enter Try.func43, Try.ntmps43
  go_wp2_with fail
  go_loopw [3, 4] (fun o i wr => ∃ (k : Nat) (L : List Qd4), k ≤ (2 * n).toNat ∧ i = .int .i64 (n + 1 + k) ∧ OwnQs w.heap.size wr o L ∧ L.map qsL = rootsTo n k ∧ Later w wr) (fun _ i _ => 200 - (intOf i).toNat)
  case atStart => exact ⟨0, [], Nat.zero_le _, by simp, OwnQs.none _ _, rfl, Later.refl w⟩
  case round =>
    obtain ⟨k, L, hk, rfl, hO, hR, hL⟩ := hrel
    have HO := hid hO
    have HR := hid hR
    have HL := hid hL
    obtain ⟨b, hb⟩ : ∃ b : Int, n + 1 + (k : Int) = b := ⟨_, rfl⟩
    rw [hb]
    by_cases hlt : b ≤ 3 * n
    · have HSU := hid (rootsTo_succ n k)
      rw [hb] at HSU
      have HT0 := hid (show rootsTo n k ++ rootsC n b 4000 b = rootsTo n (k + 1) by rw [HSU.out]; rfl)
      have HLN := hid (rootsTo_len n (k + 1))
      obtain ⟨T, hT⟩ : ∃ T, rootsTo n (k + 1) = T := ⟨_, rfl⟩
      have HTT := hid hT
      rw [hT] at HT0 HLN
      have HLN2 := hid (show T.length ≤ 1000000 by have := HLN.out; omega)
      have hb1 : n < b := by omega
      have hb2 : b ≤ 90 := by omega
      have HK := hid hk
      have HB := hid hb
      clear hO hR hL hT hb HSU HLN hk
      go_wp2_with fail
      go_loopw [3, 5] (fun o i wi => ∃ (j : Nat) (P : List Qd4), j ≤ 3600 ∧ i = .int .i64 (b + j) ∧ P.map qsL ++ rootsC n b (4000 - j) (b + j) = T ∧ OwnQs w.heap.size wi o P ∧ Later w wi) (fun _ i _ => 5000 - (intOf i).toNat)
      case atStart => exact ⟨0, L, by omega, by simp, by rw [HR.out]; simpa using HT0.out, HO.out, HL.out⟩
      case round =>
        clear HO HL HT0 HR
        obtain ⟨j, P, hj, rfl, hP, hO, hL⟩ := hrel
        have HO := hid hO
        have HL := hid hL
        have HPT := hid hP
        have hpl : P.length ≤ 1000000 := by have := HLN2.out; rw [← hP, List.length_append, List.length_map] at this; omega
        obtain ⟨c, hc⟩ : ∃ c : Int, b + (j : Int) = c := ⟨_, rfl⟩
        obtain ⟨m, hm⟩ : ∃ m, 4000 - j = m + 1 := ⟨3999 - j, by omega⟩
        rw [hc, hm] at HPT
        rw [hc]
        have hbc : b ≤ c := by omega
        have hc1 : c ≤ 3690 := by omega
        have HC := hid hc
        have HM := hid hm
        obtain ⟨y1, y2⟩ := prodQ (X := 90) (Y := 3690) (show 0 ≤ b ∧ b ≤ 90 by omega) (show 0 ≤ c ∧ c ≤ 3690 by omega)
        obtain ⟨y3, y4⟩ := prodQ (X := 30) (Y := 3780) (show 0 ≤ n ∧ n ≤ 30 by omega) (show 0 ≤ b + c ∧ b + c ≤ 3780 by omega)
        obtain ⟨y5, y6⟩ := prodQ (X := 14760) (Y := 90) (show 0 ≤ 4 * c ∧ 4 * c ≤ 14760 by omega) (show 0 ≤ b - n ∧ b - n ≤ 90 by omega)
        obtain ⟨y7, y8⟩ := prodQ (X := 120) (Y := 120) (show 0 ≤ b + n ∧ b + n ≤ 120 by omega) (show 0 ≤ b + n ∧ b + n ≤ 120 by omega)
        obtain ⟨S, hS⟩ : ∃ S, b * c - n * (b + c) = S := ⟨_, rfl⟩
        have hSb : -200000 ≤ S ∧ S ≤ 400000 := by omega
        obtain ⟨t1, t2⟩ := hSb
        have HS := hid hS
        have w1 : IntKind.i64.wrap (b * c - n * (b + c)) = S := by rw [hS, IntWalk.i64_left]; exact IntWalk.wrap64_in _ (by omega)
        obtain ⟨pa, pc, rfl, _⟩ := hO.shape
        clear hO hL hP hc hm hS
        by_cases hin : 4 * c * (b - n) ≤ (b + n) * (b + n)
        · have hc3 := tried_bd ⟨hn1, hn2⟩ ⟨hb1, by omega⟩ hbc hin
          have HST := hid (rootsC_step n b c m hin)
          have HPT2 := hid (show (P.map qsL ++ rootAt n b c) ++ rootsC n b m (c + 1) = T by rw [List.append_assoc, ← HST.out]; exact HPT.out)
          have HJ := hid (show j + 1 ≤ 3600 by have := HC.out; omega)
          obtain ⟨r, hr⟩ : ∃ r, rootZ S = r := ⟨_, rfl⟩
          have hr0 : 0 ≤ r := by rw [← hr]; exact rootZ_nn S
          have hr6 : r ≤ 640 := by
            rcases Int.lt_or_le S 0 with h | h
            · rw [rootZ_neg h] at hr; omega
            · have h2 := rootZ_sq S h
              rw [hr] at h2
              rcases Int.lt_or_le 640 r with h3 | h3
              · have := Int.mul_le_mul (show 641 ≤ r by omega) (show 641 ≤ r by omega) (by omega) (by omega); omega
              · exact h3
          have HFR := hid (fun (w0 : World) => show Calls Try.prog 60 #[.int .i64 S] w0 fun e w' => (∃ ok : Bool, e = .returned (.tuple #[.int .i64 r, .bool ok])) ∧ Later w0 w' from (implRootOf_any S w0).mono (fun e w' h => ⟨⟨(rootAns S).isSome, by have h1 := h.1; rw [rootAns_Z S (by omega), hr] at h1; exact h1⟩, h.2⟩))
          obtain ⟨D, hD⟩ : ∃ D, b + c - n - 2 * r = D := ⟨_, rfl⟩
          have HTR := hid (show triedQ n b c (rootZ (b * c - n * (b + c))) = [-n, b, c, D] by rw [HS.out, hr]; unfold triedQ; rw [hD])
          have HRA := hid (show rootAt n b c = if apB [-n, b, c, D] = true ∧ gcdL [-n, b, c, D] = 1 then [[-n, b, c, D]] else [] by unfold rootAt; rw [HTR.out])
          have HTG := hid (fun (h : apB [-n, b, c, D] = true) => by have h2 := (tried_good hn1 hb1 hbc hin (by rw [HTR.out]; exact h)).2; rw [HTR.out] at h2; exact h2)
          have w2 : IntKind.i64.wrap (b + c - n - 2 * r) = D := by rw [hD, IntWalk.i64_left]; exact IntWalk.wrap64_in _ (by omega)
          clear hr hD
          go_wp2_with fail
          refine (HFR.out _).mono ?_
          rintro e w3 ⟨⟨ok, rfl⟩, hL3⟩
          have HO3 := hid (HO.out.later hL3)
          have HL3 := hid (HL.out.trans hL3)
          have hA := Later.alloc w3 (.cells #[.int .i64 (-n), .int .i64 b, .int .i64 c, .int .i64 D] 3)
          have HF4 := hid (ownsFour w3 (-n) b c D).ints
          have HO4 := hid (HO3.out.later hA)
          have HL4 := hid (HL3.out.trans hA)
          clear hL3 hA HO HL
          cases hap : apB [-n, b, c, D]
          · have HAP := hid hap
            have HR0 := hid (show rootAt n b c = [] by rw [HRA.out, hap]; simp)
            clear hap
            go_wp2_with fail
            generalize w3.alloc (.cells #[.int .i64 (-n), .int .i64 b, .int .i64 c, .int .i64 D] 3) = w4 at HF4 HO4 HL4 ⊢
            refine (quadOf_no _ _ _ HAP.out HF4.out).mono ?_
            rintro e w5 ⟨rfl, hL5⟩
            have hA := hL5.trans (Later.alloc w5 (.cells #[.int .i64 0, .int .i64 0, .int .i64 0, .int .i64 0] 48))
            have HO6 := hid (HO4.out.later hA)
            have HL6 := hid (HL4.out.trans hA)
            clear hL5 hA
            go_wp2_with fail
            generalize w5.alloc (.cells #[.int .i64 0, .int .i64 0, .int .i64 0, .int .i64 0] 48) = w6 at HO6 HL6 ⊢
            go_quiet (fail)
            go_wp2_with fail
            go_roundw
            case rel => exact ⟨j + 1, P, HJ.out, by have := HC.out; go_num, by rw [show 4000 - (j + 1) = m by have := HM.out; omega, show b + ((j + 1 : Nat) : Int) = c + 1 by have := HC.out; omega]; have := HPT2.out; rw [HR0.out, List.append_nil] at this; exact this, HO6.out.later (Later.drewN _ _), HL6.out.trans (Later.drewN _ _)⟩
            case measure => simp [intOf]; have := HC.out; omega
          · have HAP := hid hap
            have HQD := hid ((apB_iff _ _ _ _).1 hap)
            have HLS := hid (HTG.out hap)
            obtain ⟨G, hG⟩ : ∃ G, gcdL [-n, b, c, D] = G := ⟨_, rfl⟩
            have HPK := hid (fun (w0 : World) => show Calls Try.prog 61 #[.agg #[.int .i64 (-n), .int .i64 b, .int .i64 c, .int .i64 D]] w0 fun e w' => e = .returned (.agg #[.int .i64 (-n), .int .i64 b, .int .i64 c, .int .i64 D, .int .i64 G]) ∧ Later w0 w' from hG ▸ packing_any (-n) b c D w0 HQD.out HLS.out.1 HLS.out.2)
            rw [hG, hap] at HRA
            have ee := E.out (-n) b c D G
            clear hap hG
            go_wp2_with fail
            generalize w3.alloc (.cells #[.int .i64 (-n), .int .i64 b, .int .i64 c, .int .i64 D] 3) = w4 at HF4 HO4 HL4 ⊢
            refine (quadOf_yes _ _ _ _ _ _ HAP.out HF4.out).mono ?_
            rintro e w5 ⟨rfl, hL5⟩
            have hA := hL5.trans (Later.alloc w5 (.cells #[.int .i64 (-n), .int .i64 b, .int .i64 c, .int .i64 D] 48))
            have HX := hid (QBox.new w5 (-n) b c D)
            have HO6 := hid (HO4.out.later hA)
            have HL6 := hid (HL4.out.trans hA)
            clear hL5 hA
            obtain ⟨y0, z1, z2, z3, _, _, _, _⟩ := HX.out
            go_wp2_with fail
            generalize w5.alloc (.cells #[.int .i64 (-n), .int .i64 b, .int .i64 c, .int .i64 D] 48) = w6 at HO6 HL6 HX y0 z1 z2 z3 ⊢
            obtain ⟨X, hX⟩ : ∃ X, w5.heap.size = X := ⟨_, rfl⟩
            rw [hX] at HX y0 z1 z2 z3 ⊢
            clear hX
            go_region_held3 (fun w' => w'.cell? ⟨X, 0, none⟩ = some (.int .i64 (-n)) ∧ w'.cell? ⟨X, 1, none⟩ = some (.int .i64 b) ∧ w'.cell? ⟨X, 2, none⟩ = some (.int .i64 c) ∧ w'.cell? ⟨X, 3, none⟩ = some (.int .i64 D)) (first | with_reducible exact ⟨y0, z1, z2, z3⟩ | with_reducible exact ⟨u0, u1, u2, u3⟩ | go_keep) (first | (go_at_call 61; with_reducible refine (HPK.out w6.drew).mono ?_; rintro e w7 ⟨rfl, hL7⟩; have hL7' := (Later.drew w6).trans hL7; have u0 := hL7'.cell y0; have u1 := hL7'.cell z1; have u2 := hL7'.cell z2; have u3 := hL7'.cell z3; have H7 := hid hL7'; clear hL7 hL7'))
            all_goals
              have HO7 := hid (HO6.out.later H7.out)
              have HL7 := hid (HL6.out.trans H7.out)
              clear y0 z1 z2 z3 ee
              by_cases hg1 : G = 1
              · have hgb : (G == 1) = true := by simp [hg1]
                have HR1 := hid (show rootAt n b c = [[-n, b, c, D]] by rw [HRA.out]; simp [hg1])
                have hA8 := Later.alloc w7 (.cells #[.int .i64 (-n), .int .i64 b, .int .i64 c, .int .i64 D] 48)
                have HO8 := hid (HO7.out.later hA8)
                have HWW := hid (show w.heap.size ≤ w7.heap.size from HL7.out.size)
                have HL8 := hid (HL7.out.trans hA8)
                clear hA8 hg1
                go_wp2_with (at_builtin; refine wpList_append_lies _ (by rfl) _ _ _ (by rfl) w.heap.size 48 i0 (.agg #[.int .i64 0, .int .i64 0, .int .i64 0, .int .i64 0]) 4 32 Try.underlying43 hi hz0 hz1 hz2 rfl (by omega) _ P.length (qCells P) (by rfl) (by exact HO8.out) ⟨w7.heap.size, 0, none⟩ 1 1 [.int .i64 (-n), .int .i64 b, .int .i64 c, .int .i64 D] (by rfl) (by rfl) (World.news_of_block (cs := #[.int .i64 (-n), .int .i64 b, .int .i64 c, .int .i64 D]) (t := 48) (fr := (0, 0)) (heap_alloc_new w7 _)) (by simp [Value.oneCell']) (by omega) (by unfold maxLen; omega) (by omega) (by have := HWW.out; simp; omega) (w7.heap.size + 1) (by simp) ?_)
                intro g cap1 w9 hown9 hgrow hat hglt
                have HO9 := hid (show OwnQs w.heap.size w9 (.slice (some ⟨g, 0, none⟩) (P.length + 1) cap1) (P ++ [(-n, b, c, D)]) by
                  unfold OwnQs; rw [qCells_snoc, List.length_append]; exact hown9)
                have HL9 := hid (show Later w w9 from HL8.out.grown hgrow (by have := HL8.out.size; exact this) (fun b' hb' => (HO8.out.lt b' hb').1))
                clear hown9 hgrow hat u0 u1 u2 u3
                go_wp2_with fail
                go_roundw
                case rel => exact ⟨j + 1, P ++ [(-n, b, c, D)], HJ.out, by have := HC.out; go_num, by rw [show 4000 - (j + 1) = m by have := HM.out; omega, show b + ((j + 1 : Nat) : Int) = c + 1 by have := HC.out; omega]; rw [List.map_append, show [(-n, b, c, D)].map qsL = rootAt n b c by rw [HR1.out]; rfl]; exact HPT2.out, by simpa using HO9.out, HL9.out⟩
                case measure => simp [intOf]; have := HC.out; omega
              · have hgb : (G == 1) = false := by simp [hg1]
                have HR0 := hid (show rootAt n b c = [] by rw [HRA.out]; simp [hg1])
                clear hg1
                go_wp2_with fail
                go_roundw
                case rel => exact ⟨j + 1, P, HJ.out, by have := HC.out; go_num, by rw [show 4000 - (j + 1) = m by have := HM.out; omega, show b + ((j + 1 : Nat) : Int) = c + 1 by have := HC.out; omega]; have := HPT2.out; rw [HR0.out, List.append_nil] at this; exact this, HO7.out, HL7.out⟩
                case measure => simp [intOf]; have := HC.out; omega
        · have HE := hid (show P.map qsL = rootsTo n (k + 1) by have := HPT.out; rw [rootsC_stop n b c m hin, List.append_nil] at this; rw [this, HTT.out])
          go_wp2_with fail
          go_roundw
          case rel => exact ⟨k + 1, P, by have := HB.out; omega, by have := HB.out; go_num, HO.out, HE.out, HL.out⟩
          case measure => simp [intOf]; omega
    · have HE := hid (show rootsTo n k = rootsN n by rw [show k = (2 * n - 1).toNat + 1 by omega]; exact rootsTo_last hn1)
      obtain ⟨pa, pc, rfl, _⟩ := hO.shape
      clear hO
      go_wp2_with fail
      go_ret
      exact ⟨_, L, rfl, HO.out, HR.out.trans HE.out, HL.out⟩


abbrev Pr : Type := Value × List Int
def NePr (p q : Pr) : Prop := ∀ k, p.1.ownBlock = some k → q.1.ownBlock ≠ some k
theorem NePr.symm {p q : Pr} (h : NePr p q) : NePr q p := fun k hq hp => h k hp hq
/-- A row of rows of its own, its rows with what they hold. -/
structure OwnPs (lo hi : Nat) (w : World) (v : Value) (ps : List Pr) : Prop where
  own : w.ownsRow lo 22 1 v ps.length (ps.map (·.1))
  blk : ∀ k, v.ownBlock = some k → k < hi
  ints : ∀ p ∈ ps, OwnInts lo hi w p.1 p.2
  ne : ps.Pairwise NePr
theorem OwnPs.rows {lo hi : Nat} {w : World} {v : Value} {ps : List Pr} (h : OwnPs lo hi w v ps) : OwnRows lo hi w v (ps.map (·.2)) := by
  refine ⟨ps.map (·.1), by simp, by simpa using h.own, h.blk, fun i hi => ?_, fun i j hij hj k hk => ?_⟩
  · have hi' : i < ps.length := by simpa using hi
    have := h.ints ps[i] (List.getElem_mem hi')
    simpa [hi'] using this
  · have hj' : j < ps.length := by simpa using hj
    have := List.pairwise_iff_getElem.1 h.ne i j (by omega) hj' hij k
    simp [hj', show i < ps.length by omega] at hk ⊢
    exact this hk
theorem OwnRows.ps {lo hi : Nat} {w : World} {v : Value} {L : List (List Int)} (h : OwnRows lo hi w v L) : ∃ ps, OwnPs lo hi w v ps ∧ ps.map (·.2) = L := by
  obtain ⟨us, hl, ho, hb, hi2, hd⟩ := h.partsH
  refine ⟨us.zip L, ⟨?_, hb, ?_, ?_⟩, ?_⟩
  · rw [List.length_zip, ← hl, Nat.min_self]
    have : (us.zip L).map (·.1) = us := by rw [List.map_fst_zip]; omega
    rw [this]; exact ho
  · intro p hp
    obtain ⟨i, hi3, rfl⟩ := List.getElem_of_mem hp
    have hi4 : i < L.length := by rw [List.length_zip] at hi3; omega
    have := hi2 i hi4
    simpa [hi4, show i < us.length by omega] using this
  · rw [List.pairwise_iff_getElem]
    intro i j hi3 hj3 hij k hk
    have hj4 : j < L.length := by rw [List.length_zip] at hj3; omega
    have := hd i j hij hj4 k
    simp [show i < us.length by omega, show j < us.length by omega] at this
    simpa using this (by simpa using hk)
  · rw [List.map_snd_zip]; omega
theorem OwnPs.later {lo hi : Nat} {w w' : World} {v : Value} {ps : List Pr} (h : OwnPs lo hi w v ps) (k : Later w w') : OwnPs lo hi w' v ps :=
  ⟨ownsRow_keep h.own fun b hb => k.block b (h.own.lt b hb).2, h.blk, fun p hp => (h.ints p hp).later k, h.ne⟩
theorem OwnPs.wide {lo hi lo' hi' : Nat} {w : World} {v : Value} {ps : List Pr} (h : OwnPs lo hi w v ps) (h1 : lo' ≤ lo) (h2 : hi ≤ hi') : OwnPs lo' hi' w v ps :=
  ⟨ownsRow_base h.own h1, fun k hk => Nat.lt_of_lt_of_le (h.blk k hk) h2, fun p hp => (h.ints p hp).wide h1 h2, h.ne⟩
theorem ownPs_head {lo hi : Nat} {w : World} {g n cg : Nat} {ps : List Pr} (h : OwnPs lo hi w (.slice (some ⟨g, 0, none⟩) n cg) ps) : n = ps.length ∧ n ≤ cg ∧ ∀ k, k < ps.length → w.cell? ⟨g, k, none⟩ = some (ps.getD k (undef, [])).1 := by
  rcases h.own.2 with ⟨e, _⟩ | ⟨g', cg', cur, e, hb, hg, hn, hm, hs, ht⟩
  · simp at e
  · simp only [Value.slice.injEq] at e
    obtain ⟨_, rfl, rfl⟩ := e
    refine ⟨rfl, hn, fun k hk => ?_⟩
    rw [h.own.cellAt k (by omega)]
    simp [hk]

/-- append of nothing, at a step of a region that draws. -/
theorem step_append_noneH {P : Program} (w : World) {ops : Array Oper} {o : Oper} {a : Act} {K : Act → World → Prop} {Q : Exit → Act → World → Prop} {E : Prop} (hgd : o.guard = none) (s x : Operand) (t : TypeId)
    (ho : o.op = .call { callee := .builtin .append, args := #[s, x], argTypes := #[t, t] })
    (base : Nat) (e : TypeId) (i : TypeInfo) (size : Nat) (ht : P.underlying t = some (.slice e)) (hi : P.info? e = some i)
    (v : Value) (n : Nat) (xs : List Value) (hs : a.eval s = v) (hown : w.ownsRow base e size v n xs) (hx : a.eval x = .slice none 0 0)
    (h : K (a.put o.dst v) w) :
    if Region.wanted o (yielded ops a.tmps) = true then Oper.wp P o a w K Q else E := by
  have hw : Region.wanted o (yielded ops a.tmps) = true := by simp [Region.wanted, hgd]
  rw [if_pos hw]
  have hr := run_append_owned_none (P := P) (w := w) base t o.type e i size ht hi v n xs hown
  unfold Oper.wp execOp
  simp only [ho, resolve, invoke, builtin, Sem.run_bind, Sem.run_pure, Result.andThen_ok, List.map_toArray, List.map_cons, List.map_nil, hs, hx, hr]
  exact h


def allRts (k : Nat) : List (List Int) := (List.range k).flatMap fun j : Nat => rootsN ((j : Int) + 1)
theorem allRts_succ (k : Nat) : allRts (k + 1) = allRts k ++ rootsN ((k : Int) + 1) := by
  unfold allRts; rw [List.range_succ, List.flatMap_append]; simp
def allRootsAns (n : Int) : Option (List (List Int)) := if within 1 30 n = true then some (allRts n.toNat) else none
theorem rootsN_len {n : Int} (hn : 1 ≤ n ∧ n ≤ 30) : (rootsN n).length ≤ 300000 := by
  have := rootsTo_len n (2 * n - 1).toNat
  unfold rootsN; omega
theorem allRts_len (k : Nat) (hk : k ≤ 30) : (allRts k).length ≤ k * 300000 := by
  induction k with
  | zero => simp [allRts]
  | succ k ih =>
    rw [allRts_succ, List.length_append]
    have h1 := ih (by omega)
    have h2 := rootsN_len (n := (k : Int) + 1) (by omega)
    omega
theorem OwnInts.neOldQ {lo hi lo2 hi2 : Nat} {w w2 : World} {v v2 : Value} {zs zs2 : List Int} (h : OwnInts lo hi w v zs) (h2 : OwnInts lo2 hi2 w2 v2 zs2) (hh : hi ≤ lo2) : ∀ k, v.ownBlock = some k → v2.ownBlock ≠ some k := by
  intro k hk hk2
  have h3 := h.2 k hk
  have h4 := (h2.1.lt k hk2).1
  omega
theorem OwnPs.appendQ {lo hi1 lo2 : Nat} {w w' : World} {o v v' : Value} {ps qs : List Pr} (h1 : OwnPs lo hi1 w o ps) (h2 : OwnPs lo2 w.heap.size w v qs) (hh : hi1 ≤ lo2) (hl : lo ≤ lo2) (hi1w : hi1 ≤ w.heap.size)
    (ho : w'.ownsRow lo 22 1 v' (ps.length + qs.length) (ps.map (·.1) ++ qs.map (·.1))) (hg : w.grownBy w' o.ownBlock) : OwnPs lo w'.heap.size w' v' (ps ++ qs) := by
  refine ⟨by rw [List.length_append, List.map_append]; exact ho, fun k hk => (ho.lt k hk).2, fun p hp => ?_, ?_⟩
  · rcases List.mem_append.1 hp with h | h
    · exact ((h1.ints p h).keptH h1.own hg).wide (Nat.le_refl _) (Nat.le_trans hi1w hg.size)
    · exact ((h2.ints p h).keptH h1.own hg).wide hl hg.size
  · rw [List.pairwise_append]
    exact ⟨h1.ne, h2.ne, fun p hp q hq => (h1.ints p hp).neOldQ (h2.ints q hq) hh⟩
theorem OwnPs.noneQ (lo hi : Nat) (w : World) : OwnPs lo hi w (.slice none 0 0) [] := ⟨World.ownsRow_nil _ _ _ _, fun k hk => by simp [Value.ownBlock] at hk, fun p hp => absurd hp (by simp), List.Pairwise.nil⟩
set_option maxRecDepth 20000 in
set_option maxHeartbeats 4000000 in
theorem specAllRootsUpTo_any (n : Int) (w : World) :
    Calls Try.prog 24 #[.int .i64 n] w fun e w' => RowsAns w (allRootsAns n) e w' := by
  obtain ⟨i0, hi, hz0, hz1, hz2⟩ := info_parts Try.infoInts
  cases hn : within 1 30 n
  · have HN := hid hn
    have HA := hid (show allRootsAns n = none by unfold allRootsAns; rw [hn]; simp)
    clear hn
    go_enter Try.func24, Try.ntmps24
    go_wp2_with fail
    refine (l1In_as _ _ _ _ _ HN.out).mono ?_
    rintro e w' ⟨rfl, rfl⟩
    go_wp2_with fail
    go_ret2
    rw [HA.out]
    exact ⟨_, rfl, OwnRows.noneH _ _ _, Later.refl _⟩
  · have HN := hid hn
    have hb := within130.1 hn
    obtain ⟨N, rfl⟩ : ∃ N : Nat, n = (N : Int) := ⟨n.toNat, by omega⟩
    have hN30 : N ≤ 30 := by omega
    have HA := hid (show allRootsAns (N : Int) = some (allRts N) by unfold allRootsAns; rw [if_pos hn]; simp)
    clear hn hb
    go_enter Try.func24, Try.ntmps24
    go_wp2_with fail
    refine (l1In_as _ _ _ _ _ HN.out).mono ?_
    rintro e w' ⟨rfl, rfl⟩
    go_wp2_with fail
    go_loopw [4, 5] (fun o i wr => ∃ (k : Nat) (ps : List Pr), k ≤ N ∧ i = .int .i64 ((k : Int) + 1) ∧ OwnPs w.heap.size wr.heap.size wr o ps ∧ ps.map (·.2) = allRts k ∧ Later w wr) (fun _ i _ => N + 1 - (intOf i).toNat)
    case atStart => exact ⟨0, [], Nat.zero_le _, by simp, OwnPs.noneQ _ _ _, rfl, Later.refl _⟩
    case round =>
      obtain ⟨k, ps, hk, rfl, hO, hm, hL⟩ := hrel
      have HOo := hid hO
      have HM := hid hm
      have HL := hid hL
      have hpl : ps.length ≤ 9000000 := by have := allRts_len k (by omega); rw [← hm, List.length_map] at this; omega
      clear hO hm hL
      by_cases hlt : k < N
      · have hlI : (k : Int) + 1 ≤ (N : Int) := by omega
        have HNU := hid (allRts_succ k)
        have HRL := hid (rootsN_len (n := (k : Int) + 1) (by omega))
        have HB := hid (show 1 ≤ (k : Int) + 1 ∧ (k : Int) + 1 ≤ 30 by omega)
        obtain ⟨m, hm⟩ : ∃ m : Int, (k : Int) + 1 = m := ⟨_, rfl⟩
        rw [hm] at HNU HRL HB
        have HMM := hid hm
        rw [hm]
        go_wp2_with fail
        refine (apRoots_any m _ HB.out).mono ?_
        rintro e w5 ⟨v5, rfl, ho5, hL5⟩
        obtain ⟨qs, hqs, hqm⟩ := ho5.ps
        have HO5 := hid hqs
        have HO1 := hid (HOo.out.later hL5)
        have HQM := hid hqm
        have hql : qs.length ≤ 300000 := by have := HRL.out; rw [← hqm, List.length_map] at this; exact this
        have HL5 := hid (HL.out.trans hL5)
        have HW5 := hid hL5.size
        have HWr := hid HL.out.size
        clear ho5 hqs hqm hL5
        rcases HO5.out.own.2 with ⟨rfl, h0⟩ | ⟨g5, c5, cur, rfl, _⟩
        · have hq0 : qs = [] := List.eq_nil_of_length_eq_zero h0
          subst hq0
          have HE := hid (show rootsN m = [] from HQM.out.symm)
          have HOW := hid HO1.out.own
          clear h0 hql
          go_wp2_with (at_builtin; refine wpList_append_own_none (by rfl) _ _ _ (by rfl) w.heap.size 22 i0 1 Try.underlying23 hi _ _ _ (by rfl) HOW.out (by rfl) ?_)
          go_roundw
          case rel => exact ⟨k + 1, ps, hlt, by rw [← HMM.out]; go_num, HO1.out.wide (Nat.le_refl _) HW5.out, by rw [HM.out, HNU.out, HE.out, List.append_nil], HL5.out⟩
          case measure => rw [← HMM.out]; simp [intOf]; omega
        · have hhd := (ownPs_head HO5.out).2.2
          have HNX := hid (show ∀ j u, (qs.map (·.1))[j]? = some u → w5.cell? ((⟨g5, 0, none⟩ : Addr).add j) = some u from fun j u hj => by
            have hj2 : j < qs.length := by
              rcases Nat.lt_or_ge j qs.length with h | h
              · exact h
              · rw [List.getElem?_eq_none (by simpa using h)] at hj; cases hj
            rw [addr_add0, hhd j hj2, ← hj]
            simp [hj2])
          have HXO := hid (show ∀ u ∈ qs.map (·.1), u.oneCell' = true by intro u hu; obtain ⟨p, hp, rfl⟩ := List.mem_map.1 hu; obtain ⟨_, _, e, _⟩ := (HO5.out.ints p hp).shape; rw [e]; rfl)
          clear hhd
          go_wp2_with (at_builtin; refine wpList_append_own_at _ (by rfl) _ _ _ (by rfl) w.heap.size 22 i0 (.slice none 0 0) 1 24 Try.underlying23 hi hz0 hz1 hz2 rfl (by omega) _ ps.length (ps.map (·.1)) (by rfl) (by exact HO1.out.own) ⟨g5, 0, none⟩ qs.length c5 (qs.map (·.1)) (by rfl) (by simp) HNX.out (fun u hu => HXO.out u hu) (by unfold maxLen; omega) (by omega) HL5.out.size ?_)
          intro v6 w6 hown6 hgrow6 _ _
          have HO6 := hid (OwnPs.appendQ HO1.out HO5.out (Nat.le_refl _) HWr.out HW5.out hown6 hgrow6)
          have HL6 := hid (show Later w w6 from HL5.out.grown hgrow6 HL5.out.size (fun b hb => (HO1.out.own.lt b hb).1))
          clear hown6 hgrow6
          go_wp2_with fail
          go_roundw
          case rel => exact ⟨k + 1, ps ++ qs, hlt, by rw [← HMM.out]; go_num, HO6.out, by rw [List.map_append, HM.out, HQM.out, HNU.out], HL6.out⟩
          case measure => rw [← HMM.out]; simp [intOf]; omega
      · obtain rfl : k = N := by omega
        have hlI : ¬ (k : Int) + 1 ≤ (k : Int) := by omega
        go_wp2_with fail
        go_ret2
        rw [HA.out]
        exact ⟨_, rfl, by simp only [Option.getD_some]; rw [← HM.out]; exact HOo.out.rows, HL.out⟩


set_option maxRecDepth 20000 in
set_option maxHeartbeats 2000000 in
theorem implRootsWith_any (n : Int) (w : World) :
    Calls Try.prog 23 #[.int .i64 n] w fun e w' => RowsAns w (rootsAns n) e w' := by
  cases hn : within 1 30 n
  · have HN := hid hn
    have HA := hid (show rootsAns n = none by unfold rootsAns; rw [hn]; simp)
    clear hn
    go_enter Try.func23, Try.ntmps23
    go_wp2_with fail
    refine (isOuter_as _ _ _ HN.out).mono ?_
    rintro e w' ⟨rfl, rfl⟩
    go_wp2_with fail
    go_ret2
    rw [HA.out]
    exact ⟨_, rfl, OwnRows.noneH _ _ _, Later.refl _⟩
  · have HN := hid hn
    have HA := hid (show rootsAns n = some (rootsN n) by unfold rootsAns; rw [if_pos hn])
    have HB := hid (within130.1 hn)
    clear hn
    go_enter Try.func23, Try.ntmps23
    go_wp2_with fail
    refine (isOuter_as _ _ _ HN.out).mono ?_
    rintro e w' ⟨rfl, rfl⟩
    go_wp2_with fail
    refine (rootsWith_any n _ HB.out).mono ?_
    rintro e w2 ⟨v2, L, rfl, ho, hm, hL⟩
    have HM := hid hm
    have HLN := hid (show L.length ≤ 300000 by have := rootsN_len HB.out; rw [← hm, List.length_map] at this; exact this)
    have HO := hid ho
    have HL := hid hL
    obtain ⟨a2, c2, rfl, _⟩ := ho.shape
    clear ho hm hL
    go_wp2_with fail
    refine (listsOfQ_any _ L _ (by have := HLN.out; omega) (HO.out.qs (by have := HLN.out; omega))).mono ?_
    rintro e w4 ⟨v4, rfl, ho4, hL4⟩
    rw [HM.out] at ho4
    obtain ⟨a4, c4, rfl, _⟩ := ho4.shape
    have HO4 := hid (ho4.wide HL.out.size (Nat.le_refl _))
    have HL4 := hid (HL.out.trans hL4)
    clear ho4 hL4
    go_wp2_with fail
    go_ret2
    rw [HA.out]
    exact ⟨_, rfl, HO4.out, HL4.out⟩
theorem qCells_append (L M : List Qd4) : qCells (L ++ M) = qCells L ++ qCells M := by simp [qCells]
theorem qCells_one (L : List Qd4) : ∀ u ∈ qCells L, u.oneCell' = true := by
  intro u hu
  obtain ⟨q, _, hq⟩ := List.mem_flatMap.1 hu
  simp [qVs] at hq
  rcases hq with rfl | rfl | rfl | rfl <;> rfl
set_option maxRecDepth 20000 in
set_option maxHeartbeats 4000000 in
theorem implAllRootsUpTo_any (n : Int) (w : World) :
    Calls Try.prog 25 #[.int .i64 n] w fun e w' => RowsAns w (allRootsAns n) e w' := by
  obtain ⟨i0, hi, hz0, hz1, hz2⟩ := info_parts Try.infoQd
  cases hn : within 1 30 n
  · have HN := hid hn
    have HA := hid (show allRootsAns n = none by unfold allRootsAns; rw [hn]; simp)
    clear hn
    go_enter Try.func25, Try.ntmps25
    go_wp2_with fail
    refine (isOuter_as _ _ _ HN.out).mono ?_
    rintro e w' ⟨rfl, rfl⟩
    go_wp2_with fail
    go_ret2
    rw [HA.out]
    exact ⟨_, rfl, OwnRows.noneH _ _ _, Later.refl _⟩
  · have HN := hid hn
    have hb := within130.1 hn
    obtain ⟨N, rfl⟩ : ∃ N : Nat, n = (N : Int) := ⟨n.toNat, by omega⟩
    have hN30 : N ≤ 30 := by omega
    have HA := hid (show allRootsAns (N : Int) = some (allRts N) by unfold allRootsAns; rw [if_pos hn]; simp)
    clear hn hb
    go_enter Try.func25, Try.ntmps25
    go_wp2_with fail
    refine (isOuter_as _ _ _ HN.out).mono ?_
    rintro e w' ⟨rfl, rfl⟩
    go_wp2_with fail
    go_loopw [4, 5] (fun o i wr => ∃ (k : Nat) (L : List Qd4), k ≤ N ∧ i = .int .i64 ((k : Int) + 1) ∧ OwnQs w.heap.size wr o L ∧ L.map qsL = allRts k ∧ Later w wr) (fun _ i _ => N + 1 - (intOf i).toNat)
    case atStart => exact ⟨0, [], Nat.zero_le _, by simp, OwnQs.none _ _, rfl, Later.refl _⟩
    case round =>
      obtain ⟨k, L, hk, rfl, hO, hm, hL⟩ := hrel
      have HOo := hid hO
      have HM := hid hm
      have HL := hid hL
      have hpl : L.length ≤ 9000000 := by have := allRts_len k (by omega); rw [← hm, List.length_map] at this; omega
      obtain ⟨pa, pc, rfl, _⟩ := hO.shape
      clear hO hm hL
      by_cases hlt : k < N
      · have hlI : (k : Int) + 1 ≤ (N : Int) := by omega
        have HNU := hid (allRts_succ k)
        have HRL := hid (rootsN_len (n := (k : Int) + 1) (by omega))
        have HB := hid (show 1 ≤ (k : Int) + 1 ∧ (k : Int) + 1 ≤ 30 by omega)
        obtain ⟨m, hm⟩ : ∃ m : Int, (k : Int) + 1 = m := ⟨_, rfl⟩
        rw [hm] at HNU HRL HB
        have HMM := hid hm
        rw [hm]
        go_wp2_with fail
        refine (rootsWith_any m _ HB.out).mono ?_
        rintro e w5 ⟨v5, M, rfl, ho5, hqm, hL5⟩
        have HO5 := hid ho5
        have HO1 := hid (HOo.out.later hL5)
        have HQM := hid hqm
        have hql : M.length ≤ 300000 := by have := HRL.out; rw [← hqm, List.length_map] at this; exact this
        have HL5 := hid (HL.out.trans hL5)
        clear ho5 hqm hL5
        rcases HO5.out.2 with ⟨rfl, h0⟩ | ⟨g5, c5, cur, rfl, _⟩
        · have hq0 : M = [] := List.eq_nil_of_length_eq_zero h0
          subst hq0
          have HE := hid (show rootsN m = [] from HQM.out.symm)
          clear h0 hql
          go_wp2_with (at_builtin; refine wpList_append_own_none (by rfl) _ _ _ (by rfl) w.heap.size 48 i0 4 Try.underlying43 hi _ _ _ (by rfl) HO1.out (by rfl) ?_)
          go_roundw
          case rel => exact ⟨k + 1, L, hlt, by rw [← HMM.out]; go_num, HO1.out, by rw [HM.out, HNU.out, HE.out, List.append_nil], HL5.out⟩
          case measure => rw [← HMM.out]; simp [intOf]; omega
        · have h5' : w5.ownsRow wr.heap.size 48 4 (.slice (some ⟨g5, 0, none⟩) M.length c5) M.length (qCells M) := HO5.out
          have HNX := hid (show ∀ j u, (qCells M)[j]? = some u → w5.cell? ((⟨g5, 0, none⟩ : Addr).add j) = some u from fun j u hj => by
            have hj2 : j < M.length * 4 := by
              rcases Nat.lt_or_ge j (M.length * 4) with h | h
              · exact h
              · rw [List.getElem?_eq_none (by rw [qCells_len]; exact h)] at hj; cases hj
            rw [addr_add0, h5'.cellAt j hj2, hj])
          have HXO := hid (qCells_one M)
          have HML := hid (qCells_len M)
          clear h5'
          go_wp2_with (at_builtin; refine wpList_append_own_at _ (by rfl) _ _ _ (by rfl) w.heap.size 48 i0 (.agg #[.int .i64 0, .int .i64 0, .int .i64 0, .int .i64 0]) 4 32 Try.underlying43 hi hz0 hz1 hz2 rfl (by omega) _ L.length (qCells L) (by rfl) (by exact HO1.out) ⟨g5, 0, none⟩ M.length c5 (qCells M) (by rfl) HML.out HNX.out (fun u hu => HXO.out u hu) (by unfold maxLen; omega) (by omega) HL5.out.size ?_)
          intro v6 w6 hown6 hgrow6 _ _
          have HO6 := hid (show OwnQs w.heap.size w6 v6 (L ++ M) by unfold OwnQs; rw [List.length_append, qCells_append]; exact hown6)
          have HL6 := hid (show Later w w6 from HL5.out.grown hgrow6 HL5.out.size (fun b hb => (HO1.out.lt b hb).1))
          clear hown6 hgrow6
          go_wp2_with fail
          go_roundw
          case rel => exact ⟨k + 1, L ++ M, hlt, by rw [← HMM.out]; go_num, HO6.out, by rw [List.map_append, HM.out, HQM.out, HNU.out], HL6.out⟩
          case measure => rw [← HMM.out]; simp [intOf]; omega
      · obtain rfl : k = N := by omega
        have hlI : ¬ (k : Int) + 1 ≤ (k : Int) := by omega
        go_wp2_with fail
        refine (listsOfQ_any _ L _ (by omega) (HOo.out.qs (by omega))).mono ?_
        rintro e w4 ⟨v4, rfl, ho4, hL4⟩
        rw [HM.out] at ho4
        obtain ⟨a4, c4, rfl, _⟩ := ho4.shape
        have HO4 := hid (ho4.wide HL.out.size (Nat.le_refl _))
        have HL4 := hid (HL.out.trans hL4)
        clear ho4 hL4
        go_wp2_with fail
        go_ret2
        rw [HA.out]
        exact ⟨_, rfl, HO4.out, HL4.out⟩
end Go.Proofs.Ytpkdikfjcbmcbab
