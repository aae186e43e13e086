/- Four curvatures: the roots with an outer circle (the program). -/
import Derived.Test.YtoaopmafokoaoabQdZ
import Derived.Test.YtoaopmafokoaoabQdX2
namespace Go.Proofs.Ytoaopmafokoaoab
open Go.RowKit

theorem rootAns_Z (S : Int) (h : S ≤ 1000000000000000000) : (rootAns S).getD 0 = rootZ S := by
  unfold rootAns
  by_cases h0 : 0 ≤ S
  · rw [if_pos ⟨h0, h⟩]; rfl
  · rw [if_neg (by omega), rootZ_neg (by omega)]; rfl
theorem isOuter_any (n : Int) (w : World) : Calls Try.prog 90 #[.int .i64 n] w fun e w' => e = .returned (.bool (within 1 30 n)) ∧ w = w' := by
  by_cases h1 : 1 ≤ n
  · go_enter Try.func90, Try.ntmps90
    go_wp2_with fail
    go_ret
    exact ⟨ret_bool (by simp [within, h1]), rfl⟩
  · have hb : decide (1 ≤ n) = false := decide_eq_false h1
    go_enter Try.func90, Try.ntmps90
    go_wp2_with fail
    go_ret
    exact ⟨ret_bool (by symm; simp only [within, Bool.and_eq_false_iff, decide_eq_false_iff_not]; omega), rfl⟩
theorem isOuter_as (n : Int) (o : Bool) (w : World) (h : within 1 30 n = o) : Calls Try.prog 90 #[.int .i64 n] w fun e w' => e = .returned (.bool o) ∧ w = w' := by
  subst h; exact isOuter_any n w
theorem OwnQs.none (lo : Nat) (w : World) : OwnQs lo w (.slice none 0 0) [] := World.ownsRow_nil _ _ _ _
def QList (w : World) (R : List (List Int)) (e : Ending) (w' : World) : Prop := ∃ v L, e = .returned v ∧ OwnQs w.heap.size w' v L ∧ L.map qsL = R ∧ Later w w'
set_option maxRecDepth 20000 in
set_option maxHeartbeats 4000000 in
theorem rootsWith_any (n : Int) (w : World) (hn : 1 ≤ n ∧ n ≤ 30) :
    Calls Try.prog 91 #[.int .i64 n] w fun e w' => QList w (rootsN n) e w' := by
  obtain ⟨i0, hi, hz0, hz1, hz2⟩ := info_parts Try.infoQd
  obtain ⟨hn1, hn2⟩ := hn
  have E := hid (fun a b c d g w0 => eqPack a b c d g 1 w0)
  go_enter Try.func91, Try.ntmps91
  go_wp2_with fail
  go_loopw [3, 4] (fun o i wr => ∃ (k : Nat) (L : List Qd4), k ≤ (2 * n).toNat ∧ i = .int .i64 (n + 1 + k) ∧ OwnQs w.heap.size wr o L ∧ L.map qsL = rootsTo n k ∧ Later w wr) (fun _ i _ => 200 - (intOf i).toNat)
  case atStart => exact ⟨0, [], Nat.zero_le _, by simp, OwnQs.none _ _, rfl, Later.refl w⟩
  case round =>
    obtain ⟨k, L, hk, rfl, hO, hR, hL⟩ := hrel
    have HO := hid hO
    have HR := hid hR
    have HL := hid hL
    obtain ⟨b, hb⟩ : ∃ b : Int, n + 1 + (k : Int) = b := ⟨_, rfl⟩
    rw [hb]
    by_cases hlt : b ≤ 3 * n
    · have HSU := hid (rootsTo_succ n k)
      rw [hb] at HSU
      have HT0 := hid (show rootsTo n k ++ rootsC n b 4000 b = rootsTo n (k + 1) by rw [HSU.out]; rfl)
      have HLN := hid (rootsTo_len n (k + 1))
      obtain ⟨T, hT⟩ : ∃ T, rootsTo n (k + 1) = T := ⟨_, rfl⟩
      have HTT := hid hT
      rw [hT] at HT0 HLN
      have HLN2 := hid (show T.length ≤ 1000000 by have := HLN.out; omega)
      have hb1 : n < b := by omega
      have hb2 : b ≤ 90 := by omega
      have HK := hid hk
      have HB := hid hb
      clear hO hR hL hT hb HSU HLN hk
      go_wp2_with fail
      go_loopw [3, 5] (fun o i wi => ∃ (j : Nat) (P : List Qd4), j ≤ 3600 ∧ i = .int .i64 (b + j) ∧ P.map qsL ++ rootsC n b (4000 - j) (b + j) = T ∧ OwnQs w.heap.size wi o P ∧ Later w wi) (fun _ i _ => 5000 - (intOf i).toNat)
      case atStart => exact ⟨0, L, by omega, by simp, by rw [HR.out]; simpa using HT0.out, HO.out, HL.out⟩
      case round =>
        clear HO HL HT0 HR
        obtain ⟨j, P, hj, rfl, hP, hO, hL⟩ := hrel
        have HO := hid hO
        have HL := hid hL
        have HPT := hid hP
        have hpl : P.length ≤ 1000000 := by have := HLN2.out; rw [← hP, List.length_append, List.length_map] at this; omega
        obtain ⟨c, hc⟩ : ∃ c : Int, b + (j : Int) = c := ⟨_, rfl⟩
        obtain ⟨m, hm⟩ : ∃ m, 4000 - j = m + 1 := ⟨3999 - j, by omega⟩
        rw [hc, hm] at HPT
        rw [hc]
        have hbc : b ≤ c := by omega
        have hc1 : c ≤ 3690 := by omega
        have HC := hid hc
        have HM := hid hm
        obtain ⟨y1, y2⟩ := prodQ (X := 90) (Y := 3690) (show 0 ≤ b ∧ b ≤ 90 by omega) (show 0 ≤ c ∧ c ≤ 3690 by omega)
        obtain ⟨y3, y4⟩ := prodQ (X := 30) (Y := 3780) (show 0 ≤ n ∧ n ≤ 30 by omega) (show 0 ≤ b + c ∧ b + c ≤ 3780 by omega)
        obtain ⟨y5, y6⟩ := prodQ (X := 14760) (Y := 90) (show 0 ≤ 4 * c ∧ 4 * c ≤ 14760 by omega) (show 0 ≤ b - n ∧ b - n ≤ 90 by omega)
        obtain ⟨y7, y8⟩ := prodQ (X := 120) (Y := 120) (show 0 ≤ b + n ∧ b + n ≤ 120 by omega) (show 0 ≤ b + n ∧ b + n ≤ 120 by omega)
        obtain ⟨S, hS⟩ : ∃ S, b * c - n * (b + c) = S := ⟨_, rfl⟩
        have hSb : -200000 ≤ S ∧ S ≤ 400000 := by omega
        obtain ⟨t1, t2⟩ := hSb
        have HS := hid hS
        have w1 : IntKind.i64.wrap (b * c - n * (b + c)) = S := by rw [hS, IntWalk.i64_left]; exact IntWalk.wrap64_in _ (by omega)
        obtain ⟨pa, pc, rfl, _⟩ := hO.shape
        clear hO hL hP hc hm hS
        by_cases hin : 4 * c * (b - n) ≤ (b + n) * (b + n)
        · have hc3 := tried_bd ⟨hn1, hn2⟩ ⟨hb1, by omega⟩ hbc hin
          have HST := hid (rootsC_step n b c m hin)
          have HPT2 := hid (show (P.map qsL ++ rootAt n b c) ++ rootsC n b m (c + 1) = T by rw [List.append_assoc, ← HST.out]; exact HPT.out)
          have HJ := hid (show j + 1 ≤ 3600 by have := HC.out; omega)
          obtain ⟨r, hr⟩ : ∃ r, rootZ S = r := ⟨_, rfl⟩
          have hr0 : 0 ≤ r := by rw [← hr]; exact rootZ_nn S
          have hr6 : r ≤ 640 := by
            rcases Int.lt_or_le S 0 with h | h
            · rw [rootZ_neg h] at hr; omega
            · have h2 := rootZ_sq S h
              rw [hr] at h2
              rcases Int.lt_or_le 640 r with h3 | h3
              · have := Int.mul_le_mul (show 641 ≤ r by omega) (show 641 ≤ r by omega) (by omega) (by omega); omega
              · exact h3
          have HFR := hid (fun (w0 : World) => show Calls Try.prog 110 #[.int .i64 S] w0 fun e w' => (∃ ok : Bool, e = .returned (.tuple #[.int .i64 r, .bool ok])) ∧ Later w0 w' from (implRootOf_any S w0).mono (fun e w' h => ⟨⟨(rootAns S).isSome, by have h1 := h.1; rw [rootAns_Z S (by omega), hr] at h1; exact h1⟩, h.2⟩))
          obtain ⟨D, hD⟩ : ∃ D, b + c - n - 2 * r = D := ⟨_, rfl⟩
          have HTR := hid (show triedQ n b c (rootZ (b * c - n * (b + c))) = [-n, b, c, D] by rw [HS.out, hr]; unfold triedQ; rw [hD])
          have HRA := hid (show rootAt n b c = if apB [-n, b, c, D] = true ∧ gcdL [-n, b, c, D] = 1 then [[-n, b, c, D]] else [] by unfold rootAt; rw [HTR.out])
          have HTG := hid (fun (h : apB [-n, b, c, D] = true) => by have h2 := (tried_good hn1 hb1 hbc hin (by rw [HTR.out]; exact h)).2; rw [HTR.out] at h2; exact h2)
          have w2 : IntKind.i64.wrap (b + c - n - 2 * r) = D := by rw [hD, IntWalk.i64_left]; exact IntWalk.wrap64_in _ (by omega)
          clear hr hD
          go_wp2_with fail
          refine (HFR.out _).mono ?_
          rintro e w3 ⟨⟨ok, rfl⟩, hL3⟩
          have HO3 := hid (HO.out.later hL3)
          have HL3 := hid (HL.out.trans hL3)
          have hA := Later.alloc w3 (.cells #[.int .i64 (-n), .int .i64 b, .int .i64 c, .int .i64 D] 3)
          have HF4 := hid (ownsFour w3 (-n) b c D).ints
          have HO4 := hid (HO3.out.later hA)
          have HL4 := hid (HL3.out.trans hA)
          clear hL3 hA HO HL
          cases hap : apB [-n, b, c, D]
          · have HAP := hid hap
            have HR0 := hid (show rootAt n b c = [] by rw [HRA.out, hap]; simp)
            clear hap
            go_wp2_with fail
            generalize w3.alloc (.cells #[.int .i64 (-n), .int .i64 b, .int .i64 c, .int .i64 D] 3) = w4 at HF4 HO4 HL4 ⊢
            refine (quadOf_no _ _ _ HAP.out HF4.out).mono ?_
            rintro e w5 ⟨rfl, hL5⟩
            have hA := hL5.trans (Later.alloc w5 (.cells #[.int .i64 0, .int .i64 0, .int .i64 0, .int .i64 0] 62))
            have HO6 := hid (HO4.out.later hA)
            have HL6 := hid (HL4.out.trans hA)
            clear hL5 hA
            go_wp2_with fail
            generalize w5.alloc (.cells #[.int .i64 0, .int .i64 0, .int .i64 0, .int .i64 0] 62) = w6 at HO6 HL6 ⊢
            go_quiet (fail)
            go_wp2_with fail
            go_roundw
            case rel => exact ⟨j + 1, P, HJ.out, by have := HC.out; go_num, by rw [show 4000 - (j + 1) = m by have := HM.out; omega, show b + ((j + 1 : Nat) : Int) = c + 1 by have := HC.out; omega]; have := HPT2.out; rw [HR0.out, List.append_nil] at this; exact this, HO6.out.later (Later.drewN _ _), HL6.out.trans (Later.drewN _ _)⟩
            case measure => simp [intOf]; have := HC.out; omega
          · have HAP := hid hap
            have HQD := hid ((apB_iff _ _ _ _).1 hap)
            have HLS := hid (HTG.out hap)
            obtain ⟨G, hG⟩ : ∃ G, gcdL [-n, b, c, D] = G := ⟨_, rfl⟩
            have HPK := hid (fun (w0 : World) => show Calls Try.prog 111 #[.agg #[.int .i64 (-n), .int .i64 b, .int .i64 c, .int .i64 D]] w0 fun e w' => e = .returned (.agg #[.int .i64 (-n), .int .i64 b, .int .i64 c, .int .i64 D, .int .i64 G]) ∧ Later w0 w' from hG ▸ packing_any (-n) b c D w0 HQD.out HLS.out.1 HLS.out.2)
            rw [hG, hap] at HRA
            have ee := E.out (-n) b c D G
            clear hap hG
            go_wp2_with fail
            generalize w3.alloc (.cells #[.int .i64 (-n), .int .i64 b, .int .i64 c, .int .i64 D] 3) = w4 at HF4 HO4 HL4 ⊢
            refine (quadOf_yes _ _ _ _ _ _ HAP.out HF4.out).mono ?_
            rintro e w5 ⟨rfl, hL5⟩
            have hA := hL5.trans (Later.alloc w5 (.cells #[.int .i64 (-n), .int .i64 b, .int .i64 c, .int .i64 D] 62))
            have HX := hid (QBox.new w5 (-n) b c D)
            have HO6 := hid (HO4.out.later hA)
            have HL6 := hid (HL4.out.trans hA)
            clear hL5 hA
            obtain ⟨y0, z1, z2, z3, _, _, _, _⟩ := HX.out
            go_wp2_with fail
            generalize w5.alloc (.cells #[.int .i64 (-n), .int .i64 b, .int .i64 c, .int .i64 D] 62) = w6 at HO6 HL6 HX y0 z1 z2 z3 ⊢
            obtain ⟨X, hX⟩ : ∃ X, w5.heap.size = X := ⟨_, rfl⟩
            rw [hX] at HX y0 z1 z2 z3 ⊢
            clear hX
            go_region_held3 (fun w' => w'.cell? ⟨X, 0, none⟩ = some (.int .i64 (-n)) ∧ w'.cell? ⟨X, 1, none⟩ = some (.int .i64 b) ∧ w'.cell? ⟨X, 2, none⟩ = some (.int .i64 c) ∧ w'.cell? ⟨X, 3, none⟩ = some (.int .i64 D)) (first | with_reducible exact ⟨y0, z1, z2, z3⟩ | with_reducible exact ⟨u0, u1, u2, u3⟩ | go_keep) (first | (go_at_call 111; with_reducible refine (HPK.out w6.drew).mono ?_; rintro e w7 ⟨rfl, hL7⟩; have hL7' := (Later.drew w6).trans hL7; have u0 := hL7'.cell y0; have u1 := hL7'.cell z1; have u2 := hL7'.cell z2; have u3 := hL7'.cell z3; have H7 := hid hL7'; clear hL7 hL7'))
            all_goals
              have HO7 := hid (HO6.out.later H7.out)
              have HL7 := hid (HL6.out.trans H7.out)
              clear y0 z1 z2 z3 ee
              by_cases hg1 : G = 1
              · have hgb : (G == 1) = true := by simp [hg1]
                have HR1 := hid (show rootAt n b c = [[-n, b, c, D]] by rw [HRA.out]; simp [hg1])
                have hA8 := Later.alloc w7 (.cells #[.int .i64 (-n), .int .i64 b, .int .i64 c, .int .i64 D] 62)
                have HO8 := hid (HO7.out.later hA8)
                have HWW := hid (show w.heap.size ≤ w7.heap.size from HL7.out.size)
                have HL8 := hid (HL7.out.trans hA8)
                clear hA8 hg1
                go_wp2_with (at_builtin; refine wpList_append_lies _ (by rfl) _ _ _ (by rfl) w.heap.size 62 i0 (.agg #[.int .i64 0, .int .i64 0, .int .i64 0, .int .i64 0]) 4 32 Try.underlying57 hi hz0 hz1 hz2 rfl (by omega) _ P.length (qCells P) (by rfl) (by exact HO8.out) ⟨w7.heap.size, 0, none⟩ 1 1 [.int .i64 (-n), .int .i64 b, .int .i64 c, .int .i64 D] (by rfl) (by rfl) (World.news_of_block (cs := #[.int .i64 (-n), .int .i64 b, .int .i64 c, .int .i64 D]) (t := 62) (fr := (0, 0)) (heap_alloc_new w7 _)) (by simp [Value.oneCell']) (by omega) (by unfold maxLen; omega) (by omega) (by have := HWW.out; simp; omega) (w7.heap.size + 1) (by simp) ?_)
                intro g cap1 w9 hown9 hgrow hat hglt
                have HO9 := hid (show OwnQs w.heap.size w9 (.slice (some ⟨g, 0, none⟩) (P.length + 1) cap1) (P ++ [(-n, b, c, D)]) by
                  unfold OwnQs; rw [qCells_snoc, List.length_append]; exact hown9)
                have HL9 := hid (show Later w w9 from HL8.out.grown hgrow (by have := HL8.out.size; exact this) (fun b' hb' => (HO8.out.lt b' hb').1))
                clear hown9 hgrow hat u0 u1 u2 u3
                go_wp2_with fail
                go_roundw
                case rel => exact ⟨j + 1, P ++ [(-n, b, c, D)], HJ.out, by have := HC.out; go_num, by rw [show 4000 - (j + 1) = m by have := HM.out; omega, show b + ((j + 1 : Nat) : Int) = c + 1 by have := HC.out; omega]; rw [List.map_append, show [(-n, b, c, D)].map qsL = rootAt n b c by rw [HR1.out]; rfl]; exact HPT2.out, by simpa using HO9.out, HL9.out⟩
                case measure => simp [intOf]; have := HC.out; omega
              · have hgb : (G == 1) = false := by simp [hg1]
                have HR0 := hid (show rootAt n b c = [] by rw [HRA.out]; simp [hg1])
                clear hg1
                go_wp2_with fail
                go_roundw
                case rel => exact ⟨j + 1, P, HJ.out, by have := HC.out; go_num, by rw [show 4000 - (j + 1) = m by have := HM.out; omega, show b + ((j + 1 : Nat) : Int) = c + 1 by have := HC.out; omega]; have := HPT2.out; rw [HR0.out, List.append_nil] at this; exact this, HO7.out, HL7.out⟩
                case measure => simp [intOf]; have := HC.out; omega
        · have HE := hid (show P.map qsL = rootsTo n (k + 1) by have := HPT.out; rw [rootsC_stop n b c m hin, List.append_nil] at this; rw [this, HTT.out])
          go_wp2_with fail
          go_roundw
          case rel => exact ⟨k + 1, P, by have := HB.out; omega, by have := HB.out; go_num, HO.out, HE.out, HL.out⟩
          case measure => simp [intOf]; omega
    · have HE := hid (show rootsTo n k = rootsN n by rw [show k = (2 * n - 1).toNat + 1 by omega]; exact rootsTo_last hn1)
      obtain ⟨pa, pc, rfl, _⟩ := hO.shape
      clear hO
      go_wp2_with fail
      go_ret
      exact ⟨_, L, rfl, HO.out, HR.out.trans HE.out, HL.out⟩
end Go.Proofs.Ytoaopmafokoaoab
