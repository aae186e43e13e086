/- All right triples up to a bound in the model: riUpTo. -/
import Derived.Test.YtdahhcigphhfdacRiAh
import Derived.Test.YtdahhcigphhfdacRiAa
namespace Go.Proofs.Ytdahhcigphhfdac
open Go.RowKit

theorem riBefore_as {p q : Rt} {u v : Value} {w : World} {o : Bool} (ho : befR p q = o) (hu : Ints w u (rtL p)) (hv : Ints w v (rtL q)) :
    Calls Try.prog 117 #[u, v] w fun e w' => e = .returned (.bool o) ∧ Drew w w' := by
  subst ho; exact riBefore_any p q u v w hu hv

set_option maxRecDepth 20000 in
set_option maxHeartbeats 4000000 in
theorem riUpTo_any (most : Int) (h0 : 0 ≤ most) (h1 : most ≤ 5000) (w : World) : Calls Try.prog 74 #[.int .i64 most] w fun e w' => MadeRows w ((allR most 72).map rtL) e w' := by
  obtain ⟨i0, hi, hz0, hz1, hz2⟩ := info_parts Try.infoInts
  have HPR := hid (fun m n w0 => riPair_any m n w0)
  have HR2 := hid (allR_two most)
  go_enter Try.func74, Try.ntmps74
  go_wp2_with fail
  go_loopw [3, 4] (fun o i wr => ∃ (M : Nat) (ps : List Pr), 2 ≤ M ∧ M ≤ 72 ∧ i = .int .i64 M ∧ OwnPs w.heap.size wr.heap.size wr o ps ∧ ps.map (·.2) = (allR most M).map rtL ∧ Later w wr) (fun _ i _ => 73 - (intOf i).toNat)
  case atStart => exact ⟨2, [], by omega, by omega, rfl, ⟨World.ownsRow_nil _ _ _ _, by simp [Value.ownBlock], by simp, List.Pairwise.nil⟩, by rw [HR2.out]; rfl, Later.refl _⟩
  case round =>
    obtain ⟨M, ps, hM2, hM, rfl, ho, hR, hL⟩ := hrel
    have HO := hid ho
    have HR := hid hR
    have HLr := hid hL
    have hq0 : (0 : Int) ≤ (M : Int) * M := Int.mul_nonneg (by omega) (by omega)
    have hq1 : (M : Int) * M ≤ 72 * 72 := Int.mul_le_mul (by omega) (by omega) (by omega) (by omega)
    clear ho hR hL
    by_cases hlt : (M : Int) * M < most
    · have hM70 : M ≤ 70 := by
        apply Classical.byContradiction
        intro hn
        have : (71 : Int) * 71 ≤ (M : Int) * M := Int.mul_le_mul (by omega) (by omega) (by omega) (by omega)
        omega
      go_wp2_with fail
      go_loopw [3, 5] (fun o j wr => ∃ (k : Nat) (ps : List Pr), 1 ≤ k ∧ k ≤ M ∧ j = .int .i64 k ∧ OwnPs w.heap.size wr.heap.size wr o ps ∧ ps.map (·.2) = ((rowsP most M ++ rowP most M k).foldl insR []).map rtL ∧ Later w wr) (fun _ j _ => M - (intOf j).toNat)
      case atStart => exact ⟨1, ps, by omega, by omega, rfl, HO.out, by rw [rowP_one, List.append_nil]; exact HR.out, HLr.out⟩
      case round =>
        clear HO HR HLr
        obtain ⟨k, ps, hk1, hkM, rfl, ho, hR, hL⟩ := hrel
        have HO := hid ho
        have HR := hid hR
        have HLr := hid hL
        clear ho hR hL
        by_cases hkl : k < M
        · have HSU := hid (rowP_succ most M k)
          have hk2 : (k : Int) * k ≤ 72 * 72 := Int.mul_le_mul (by omega) (by omega) (by omega) (by omega)
          have hk3 : (0 : Int) ≤ (k : Int) * k := Int.mul_nonneg (by omega) (by omega)
          have HT := hid (fun w0 => HPR.out M k w0)
          cases hp : pairB M k
          · have HX := hid (show rowP most M (k + 1) = rowP most M k by rw [HSU.out, if_neg (by unfold inR; simp only [hp, Bool.false_and]; simp)])
            rw [hp] at HT
            clear hp
            go_wp2_with fail
            refine (HT.out _).mono ?_
            rintro e w2 ⟨rfl, rfl⟩
            go_wp2_with fail
            go_roundw
            case rel => exact ⟨k + 1, ps, by omega, hkl, by go_num, HO.out, by rw [HX.out]; exact HR.out, HLr.out⟩
            case measure => simp [intOf]; omega
          · rw [hp] at HT
            by_cases hz : (M : Int) * M + k * k ≤ most
            · have HP := hid (pairB_iff.1 hp)
              have HX0 := hid (show (rowsP most M ++ rowP most M (k + 1)).foldl insR [] = insR ((rowsP most M ++ rowP most M k).foldl insR []) ((M : Int), (k : Int)) by
                rw [HSU.out, if_pos (by unfold inR; rw [hp, Bool.true_and]; exact decide_eq_true hz), insR_snoc])
              have HLB0 := hid (show ((rowsP most M ++ rowP most M k).foldl insR []).length ≤ 1000000 by
                rw [foldR_len, List.length_append]
                have h2 := rowsP_len most M
                have h3 := rowP_len most M k
                have h4 : M * M ≤ 72 * 72 := Nat.mul_le_mul hM hM
                simp
                omega)
              obtain ⟨L, hLe⟩ : ∃ L, (rowsP most M ++ rowP most M k).foldl insR [] = L := ⟨_, rfl⟩
              rw [hLe] at HX0 HLB0 HR
              have HX := HX0
              have HLB := HLB0
              have HLL := HR
              clear HX0 HLB0 HR hLe hp
              go_wp2_with fail
              refine (HT.out _).mono ?_
              rintro e w2 ⟨rfl, rfl⟩
              go_wp2_with fail
              refine (riOf_any (M : Int) (k : Int) HP.out _).mono ?_
              rintro e wq ⟨u, rfl, hown, hL⟩
              obtain ⟨ua, uc, rfl, _⟩ := hown.shape
              have HUS := hid (show OwnInts w.heap.size wq.heap.size wq (.slice ua 3 uc) (rtL ((M : Int), (k : Int))) from hown.wide HLr.out.size (Nat.le_refl _))
              have HNE := hid (show ∀ p ∈ ps, NePr p (Value.slice ua 3 uc, rtL ((M : Int), (k : Int))) from fun p hp b hb hb2 => by
                have h1 := (HO.out.ints p hp).2 b hb
                have h2 := (hown.1.lt b hb2).1
                omega)
              have HOS := hid (show OwnPs w.heap.size wq.heap.size wq _ ps from (HO.out.later hL).wide (Nat.le_refl _) hL.size)
              replace HLr := hid (HLr.out.trans hL)
              clear hown hL HO
              rcases HOS.out.own.2 with ⟨rfl, h0⟩ | ⟨g, cg, cur, rfl, _, _⟩
              · have hps : ps = [] := List.eq_nil_of_length_eq_zero h0
                subst hps
                have HMZ := hid (show [(Value.slice ua 3 uc, rtL ((M : Int), (k : Int)))].map (·.2) = ((rowsP most M ++ rowP most M (k + 1)).foldl insR []).map rtL by
                  have h1 := insK_map (ps := []) (L := L) (t := ((M : Int), (k : Int))) (Value.slice ua 3 uc) HLL.out
                  rw [HX.out, ← h1]
                  simp [insK])
                clear h0
                go_wp2_with fail
                go_loopw [7] (fun j wr => j = .int .i64 0 ∧ wr = wq) (fun _ _ => 0)
                case atStart => exact ⟨rfl, rfl⟩
                case round =>
                  obtain ⟨rfl, rfl⟩ := hrel
                  have HO6 : Hid ((wr.alloc (.cells #[] 26)).ownsRow wr.heap.size 26 1 (.slice (some ⟨wr.heap.size, 0, none⟩) 0 0) 0 []) := hid ⟨rfl, .inr ⟨wr.heap.size, 0, #[], rfl, Nat.le_refl _, heap_alloc_new wr _, Nat.le_refl _, by omega, by simp, by simp⟩⟩
                  have HL6 := hid (Later.alloc wr (.cells #[] 26))
                  have HW6 := hid HL6.out.size
                  go_wp2_with fail
                  obtain ⟨v6, hv6⟩ : ∃ v : Value, .slice (some ⟨wr.heap.size, 0, none⟩) 0 0 = v := ⟨_, rfl⟩
                  rw [hv6] at HO6 ⊢
                  generalize wr.alloc (.cells #[] 26) = w6 at HO6 HL6 HW6 ⊢
                  clear hv6
                  go_region_held3 (fun _ => True) (trivial) (first | (have hh := HW6; clear hh; refine step_append_atH _ (by rfl) _ _ _ (by rfl) wr.heap.size 26 i0 (.slice none 0 0) 1 24 Try.underlying37 hi hz0 hz1 hz2 rfl (by omega) v6 0 [] (by rfl) (by exact (HO6.out.alloc (.cells #[Value.slice ua 3 uc] 26)).drew) _ _ _ [.slice ua 3 uc] (by rfl) (by rfl) (by intro j u hj; rw [World.cell?_drew]; exact World.news_of_block (cs := #[.slice ua 3 uc]) (t := 26) (fr := (0, 0)) (heap_alloc_new w6 _) j u hj) (fun u hu => by simp at hu; subst hu; rfl) (by unfold maxLen; omega) (by omega) (by have := HW6.out; simp; omega) ?_; intro v7 w7 hown7 hgrow7; clear HW6; have HO7 := hid hown7; have HL7 := hid (show Later wr w7 from ((HL6.out.trans (Later.alloc w6 (.cells #[Value.slice ua 3 uc] 26))).trans (Later.drew _)).grown hgrow7 (by have := HL6.out.size; simp; omega) (fun b hb => (HO6.out.lt b hb).1)); obtain ⟨a7, c7, rfl, _⟩ := ownsRow_shape hown7; clear hown7 hgrow7) | (have hh := HO7; clear hh; refine step_append_noneH _ (by rfl) _ _ _ (by rfl) wr.heap.size 26 i0 1 Try.underlying37 hi _ 1 ([] ++ [.slice ua 3 uc]) (by rfl) (by exact HO7.out) (by rfl) ?_))
                  go_wp2_with fail
                  have HOZ := hid (show OwnPs w.heap.size w7.heap.size w7 (.slice a7 (0 + 1) c7) (insK [] 0 (.slice ua 3 uc, rtL (M, k))) from HOS.out.insertK HUS.out HNE.out HL7.out (by exact ownsRow_base HO7.out (HLr.out.size)))
                  go_roundw
                  case rel => exact ⟨k + 1, _, by omega, hkl, by go_num, HOZ.out, HMZ.out, HLr.out.trans HL7.out⟩
                  case measure => simp [intOf]; omega
              · obtain ⟨n, hn⟩ : ∃ n, ps.length = n := ⟨_, rfl⟩
                rw [hn] at HOS ⊢
                clear hn
                have HPN := hid (show ps.length = n from (ownPs_head HOS.out).1.symm)
                have hcap := (ownPs_head HOS.out).2.1
                have HHD := hid (ownPs_head HOS.out).2.2
                have HSL := hid (show ∀ p ∈ ps, p.1.oneCell' = true from fun p hp => by obtain ⟨_, _, e, _⟩ := (HOS.out.ints p hp).shape; rw [e]; rfl)
                have HLN := hid (show L.length = n by have h1 := congrArg List.length HLL.out; rw [List.length_map, List.length_map] at h1; rw [← h1]; exact HPN.out)
                have hnb : n ≤ 1000000 := by have := HLB.out; have := HLN.out; omega
                obtain ⟨K, hK⟩ : ∃ K, posR ((M : Int), (k : Int)) L L.length = K := ⟨_, rfl⟩
                have hspec := posR_spec ((M : Int), (k : Int)) L L.length
                rw [hK] at hspec
                have hKn : K ≤ n := by rw [← HLN.out]; exact hspec.1
                have HK1 := hid (show ∀ j, K ≤ j → j < n → befR ((M : Int), (k : Int)) (L.getD j noRt) = true by rw [← HLN.out]; exact hspec.2.1)
                have HK2 := hid hspec.2.2
                have HMZ := hid (show (insK ps K (Value.slice ua 3 uc, rtL ((M : Int), (k : Int)))).map (·.2) = ((rowsP most M ++ rowP most M (k + 1)).foldl insR []).map rtL by
                  have h1 := insK_map (L := L) (t := ((M : Int), (k : Int))) (Value.slice ua 3 uc) HLL.out
                  rw [hK] at h1
                  rw [HX.out, h1])
                clear hspec hK
                go_wp2_with fail
                go_loopw [7] (fun j wr => ∃ i : Nat, K ≤ i ∧ i ≤ n ∧ j = .int .i64 i ∧ Later wq wr) (fun j _ => (intOf j).toNat)
                case atStart => exact ⟨n, hKn, Nat.le_refl _, rfl, Later.refl _⟩
                case round =>
                  obtain ⟨i, hi1, hi2, rfl, hL3⟩ := hrel
                  have HL3 := hid hL3
                  clear hL3
                  have row : ∀ i, i < n → ∃ ad c, wr.cell? ⟨g, i, none⟩ = some (.slice ad 3 c) ∧ Ints wr (.slice ad 3 c) (rtL (L.getD i noRt)) := by
                    intro i hi
                    have hi' : i < ps.length := by rw [HPN.out]; exact hi
                    have h1 := HHD.out i hi'
                    have h2 := HOS.out.ints ps[i] (List.getElem_mem hi')
                    have h4 : ps[i].2 = rtL (L.getD i noRt) := by
                      have h5 := congrArg (fun l => l.getD i []) HLL.out
                      have hi6 : i < L.length := by rw [HLN.out]; exact hi
                      simpa [hi', hi6] using h5
                    rw [h4] at h2
                    obtain ⟨ad, c, e, _⟩ := h2.shape
                    rw [show ps.getD i (undef, []) = ps[i] by simp [hi']] at h1
                    refine ⟨ad, c, ?_, ?_⟩
                    · rw [← show ps[i].1 = .slice ad 3 c from e]; exact HL3.out.cell h1
                    · rw [← show ps[i].1 = .slice ad 3 c from e]; exact (h2.later HL3.out).ints
                  by_cases hiK : i = K
                  · obtain rfl : K = i := hiK.symm
                    by_cases h0 : K = 0
                    · have hk9 : ¬ (0 : Int) < (K : Int) := by omega
                      clear row h0
                      have HOW := hid (show (wr.alloc (.cells #[] 26)).ownsRow wr.heap.size 26 1 (.slice (some ⟨wr.heap.size, 0, none⟩) 0 0) 0 [] from ⟨rfl, .inr ⟨wr.heap.size, 0, #[], rfl, Nat.le_refl _, heap_alloc_new wr _, Nat.le_refl _, by omega, by simp, by simp⟩⟩)
                      have HAT := hid (show ∀ j u, (ps.map (·.1))[j]? = some u → wr.cell? ⟨g, j, none⟩ = some u from fun j u hj => by
                        have hj2 : j < ps.length := by
                          rcases Nat.lt_or_ge j ps.length with h | h
                          · exact h
                          · rw [List.getElem?_eq_none (by simpa using h)] at hj; cases hj
                        rw [HL3.out.cell (HHD.out j hj2), ← hj]
                        simp [hj2])
                      obtain ⟨XS, hXS⟩ : ∃ XS, (ps.take K).map (·.1) = XS := ⟨_, rfl⟩
                      obtain ⟨YS, hYS⟩ : ∃ YS, (ps.drop K).map (·.1) = YS := ⟨_, rfl⟩
                      have HXS := hid hXS
                      have HYS := hid hYS
                      clear hXS hYS
                      have HXL := hid (show XS.length = K * 1 by rw [← HXS.out]; simp; have := HPN.out; omega)
                      have HYL := hid (show YS.length = (n - K) * 1 by rw [← HYS.out]; simp; have := HPN.out; omega)
                      have HXO := hid (show ∀ u ∈ XS, u.oneCell' = true by intro u hu; rw [← HXS.out] at hu; obtain ⟨p, hp, rfl⟩ := List.mem_map.1 hu; exact HSL.out p (List.mem_of_mem_take hp))
                      have HYO := hid (show ∀ u ∈ YS, u.oneCell' = true by intro u hu; rw [← HYS.out] at hu; obtain ⟨p, hp, rfl⟩ := List.mem_map.1 hu; exact HSL.out p (List.mem_of_mem_drop hp))
                      have HNX := hid (show ∀ j u, XS[j]? = some u → (wr.alloc (.cells #[] 26)).cell? ((⟨g, 0, none⟩ : Addr).add j) = some u from fun j u hj => by
                        rw [addr_add0]
                        refine (Later.alloc wr _).cell (HAT.out j u ?_)
                        rw [← HXS.out, List.map_take, List.getElem?_take] at hj
                        split at hj
                        · exact hj
                        · cases hj)
                      have HINL := hid (show (insK ps K (.slice ua 3 uc, rtL (M, k))).length = K + 1 + (n - K) by rw [(insK_perm ps K _).length_eq]; simp; have := HPN.out; omega)
                      have HINM := hid (show (insK ps K (.slice ua 3 uc, rtL (M, k))).map (·.1) = XS ++ [.slice ua 3 uc] ++ YS by unfold insK; rw [← HXS.out, ← HYS.out]; simp)
                      have HLW := hid (show w.heap.size ≤ wr.heap.size from Nat.le_trans HLr.out.size HL3.out.size)
                      have hkc : (K : Int) ≤ (cg : Int) := by omega
                      have hkp : (K : Int) ≤ (n : Int) := by omega
                      have hpc : (n : Int) ≤ (cg : Int) := by omega
                      have hk0 : (0 : Int) ≤ (K : Int) := by omega
                      have hktn : ((K : Int)).toNat = K := by omega
                      go_wp2_with (at_builtin; refine wpList_append_own_at _ (by rfl) _ _ _ (by rfl) wr.heap.size 26 i0 (.slice none 0 0) 1 24 Try.underlying37 hi hz0 hz1 hz2 rfl (by omega) (.slice (some ⟨wr.heap.size, 0, none⟩) 0 0) 0 [] (by rfl) (by exact HOW.out) ⟨g, 0, none⟩ K cg XS (by rfl) (by exact HXL.out) HNX.out (fun u hu => HXO.out u hu) (by unfold maxLen; omega) (by omega) (by simp) ?_)
                      intro v6 w6 hown6 hgrow6 _ _
                      have HO6 := hid (show w6.ownsRow wr.heap.size 26 1 v6 K XS by simpa using hown6)
                      have HL6 := hid (show Later wr w6 from (Later.alloc wr (.cells #[] 26)).grown hgrow6 (by simp) (fun b hb => Nat.le_of_eq (Option.some.inj hb)))
                      have HW6 := hid HL6.out.size
                      clear hown6 hgrow6 HOW HNX
                      by_cases hcq : cg = K
                      · have HNY := hid (show ∀ t u, YS[t]? = some u → wr.cell? ((⟨g, 0, none⟩ : Addr).add t) = some u from fun t u ht => by
                            rw [List.getElem?_eq_none (by have := HYL.out; omega)] at ht; cases ht)
                        clear HAT HXS HYS
                        go_wp2_with fail
                        go_region_held3 (fun _ => True) (trivial) (first | (have hh := HW6; clear hh; refine step_append_atH _ (by rfl) _ _ _ (by rfl) wr.heap.size 26 i0 (.slice none 0 0) 1 24 Try.underlying37 hi hz0 hz1 hz2 rfl (by omega) v6 K XS (by rfl) (by exact (HO6.out.alloc (.cells #[Value.slice ua 3 uc] 26)).drew) _ _ _ [.slice ua 3 uc] (by rfl) (by rfl) (by intro j u hj; rw [World.cell?_drew]; exact World.news_of_block (cs := #[.slice ua 3 uc]) (t := 26) (fr := (0, 0)) (heap_alloc_new w6 _) j u hj) (fun u hu => by simp at hu; subst hu; rfl) (by unfold maxLen; omega) (by omega) (by have := HW6.out; simp; omega) ?_; intro v7 w7 hown7 hgrow7; clear HW6; have HO7 := hid hown7; have HL7 := hid (show Later wr w7 from ((HL6.out.trans (Later.alloc w6 (.cells #[Value.slice ua 3 uc] 26))).trans (Later.drew _)).grown hgrow7 (by have := HL6.out.size; simp; omega) (fun b hb => (HO6.out.lt b hb).1)); clear hown7 hgrow7) | (have hh := HO7; clear hh; refine step_append_atH _ (by rfl) _ _ _ (by rfl) wr.heap.size 26 i0 (.slice none 0 0) 1 24 Try.underlying37 hi hz0 hz1 hz2 rfl (by omega) _ (K + 1) (XS ++ [.slice ua 3 uc]) (by rfl) (by exact HO7.out) ⟨g, 0, none⟩ (n - K) 0 YS (by rfl) (by exact HYL.out) (fun t u ht => HL7.out.cell (HNY.out t u ht)) (fun u hu => HYO.out u hu) (by unfold maxLen; omega) (by omega) (by have := HL7.out.size; omega) ?_; intro v8 w8 hown8 hgrow8; have HO8 := hid hown8; have HL8 := hid (show Later wr w8 from HL7.out.grown hgrow8 HL7.out.size (fun b hb => (HO7.out.lt b hb).1)); obtain ⟨a8, c8, rfl, _⟩ := ownsRow_shape hown8; clear hown8 hgrow8 HO7 HL7))
                        go_wp2_with fail
                        have HOZ := hid (show OwnPs w.heap.size w8.heap.size w8 (.slice a8 (K + 1 + (n - K)) c8) (insK ps K (.slice ua 3 uc, rtL (M, k))) from ((HOS.out.later HL3.out).wide (Nat.le_refl _) HL3.out.size).insertK ((HUS.out.later HL3.out).wide (Nat.le_refl _) HL3.out.size) HNE.out HL8.out (by
                          rw [HINL.out, HINM.out]
                          exact ownsRow_base HO8.out HLW.out))
                        go_roundw
                        case rel => exact ⟨k + 1, _, by omega, hkl, by go_num, HOZ.out, HMZ.out, (HLr.out.trans HL3.out).trans HL8.out⟩
                        case measure => simp [intOf]; omega
                      · have HNY := hid (show ∀ t u, YS[t]? = some u → wr.cell? ((⟨g, K, none⟩ : Addr).add t) = some u from fun t u ht => by
                            have h1 := HAT.out (K + t) u (by rw [← HYS.out] at ht; rw [← ht]; simp)
                            rw [← h1]
                            congr 1
                            unfold Addr.add
                            by_cases h0 : t = 0 <;> simp [h0])
                        clear HAT HXS HYS
                        go_wp2_with fail
                        go_region_held3 (fun _ => True) (trivial) (first | (have hh := HW6; clear hh; refine step_append_atH _ (by rfl) _ _ _ (by rfl) wr.heap.size 26 i0 (.slice none 0 0) 1 24 Try.underlying37 hi hz0 hz1 hz2 rfl (by omega) v6 K XS (by rfl) (by exact (HO6.out.alloc (.cells #[Value.slice ua 3 uc] 26)).drew) _ _ _ [.slice ua 3 uc] (by rfl) (by rfl) (by intro j u hj; rw [World.cell?_drew]; exact World.news_of_block (cs := #[.slice ua 3 uc]) (t := 26) (fr := (0, 0)) (heap_alloc_new w6 _) j u hj) (fun u hu => by simp at hu; subst hu; rfl) (by unfold maxLen; omega) (by omega) (by have := HW6.out; simp; omega) ?_; intro v7 w7 hown7 hgrow7; clear HW6; have HO7 := hid hown7; have HL7 := hid (show Later wr w7 from ((HL6.out.trans (Later.alloc w6 (.cells #[Value.slice ua 3 uc] 26))).trans (Later.drew _)).grown hgrow7 (by have := HL6.out.size; simp; omega) (fun b hb => (HO6.out.lt b hb).1)); clear hown7 hgrow7) | (have hh := HO7; clear hh; refine step_append_atH _ (by rfl) _ _ _ (by rfl) wr.heap.size 26 i0 (.slice none 0 0) 1 24 Try.underlying37 hi hz0 hz1 hz2 rfl (by omega) _ (K + 1) (XS ++ [.slice ua 3 uc]) (by rfl) (by exact HO7.out) ⟨g, K, none⟩ (n - K) (cg - K) YS (by rfl) (by exact HYL.out) (fun t u ht => HL7.out.cell (HNY.out t u ht)) (fun u hu => HYO.out u hu) (by unfold maxLen; omega) (by omega) (by have := HL7.out.size; omega) ?_; intro v8 w8 hown8 hgrow8; have HO8 := hid hown8; have HL8 := hid (show Later wr w8 from HL7.out.grown hgrow8 HL7.out.size (fun b hb => (HO7.out.lt b hb).1)); obtain ⟨a8, c8, rfl, _⟩ := ownsRow_shape hown8; clear hown8 hgrow8 HO7 HL7))
                        go_wp2_with fail
                        have HOZ := hid (show OwnPs w.heap.size w8.heap.size w8 (.slice a8 (K + 1 + (n - K)) c8) (insK ps K (.slice ua 3 uc, rtL (M, k))) from ((HOS.out.later HL3.out).wide (Nat.le_refl _) HL3.out.size).insertK ((HUS.out.later HL3.out).wide (Nat.le_refl _) HL3.out.size) HNE.out HL8.out (by
                          rw [HINL.out, HINM.out]
                          exact ownsRow_base HO8.out HLW.out))
                        go_roundw
                        case rel => exact ⟨k + 1, _, by omega, hkl, by go_num, HOZ.out, HMZ.out, (HLr.out.trans HL3.out).trans HL8.out⟩
                        case measure => simp [intOf]; omega
                    · obtain ⟨ad, c, hc, hr⟩ := row (K - 1) (by omega)
                      have HB := hid (HK2.out (by omega))
                      have hm1 : ((K : Int) - 1).toNat = K - 1 := by omega
                      have hi3 : (0 : Int) < (K : Int) := by omega
                      have hi4 : (0 : Int) ≤ (K : Int) - 1 := by omega
                      have hi5 : (K : Int) - 1 < (n : Int) := by omega
                      have HRI := hid hr
                      clear row hr
                      go_wp2_with fail
                      refine (riBefore_as HB.out (HUS.out.later HL3.out).ints HRI.out).mono ?_
                      rintro e w3 ⟨rfl, hD⟩
                      replace HL3 := hid (HL3.out.trans hD.later)
                      clear hD hc HB HRI hm1 hi3 hi4 hi5
                      have HOW := hid (show (w3.alloc (.cells #[] 26)).ownsRow w3.heap.size 26 1 (.slice (some ⟨w3.heap.size, 0, none⟩) 0 0) 0 [] from ⟨rfl, .inr ⟨w3.heap.size, 0, #[], rfl, Nat.le_refl _, heap_alloc_new w3 _, Nat.le_refl _, by omega, by simp, by simp⟩⟩)
                      have HAT := hid (show ∀ j u, (ps.map (·.1))[j]? = some u → w3.cell? ⟨g, j, none⟩ = some u from fun j u hj => by
                        have hj2 : j < ps.length := by
                          rcases Nat.lt_or_ge j ps.length with h | h
                          · exact h
                          · rw [List.getElem?_eq_none (by simpa using h)] at hj; cases hj
                        rw [HL3.out.cell (HHD.out j hj2), ← hj]
                        simp [hj2])
                      obtain ⟨XS, hXS⟩ : ∃ XS, (ps.take K).map (·.1) = XS := ⟨_, rfl⟩
                      obtain ⟨YS, hYS⟩ : ∃ YS, (ps.drop K).map (·.1) = YS := ⟨_, rfl⟩
                      have HXS := hid hXS
                      have HYS := hid hYS
                      clear hXS hYS
                      have HXL := hid (show XS.length = K * 1 by rw [← HXS.out]; simp; have := HPN.out; omega)
                      have HYL := hid (show YS.length = (n - K) * 1 by rw [← HYS.out]; simp; have := HPN.out; omega)
                      have HXO := hid (show ∀ u ∈ XS, u.oneCell' = true by intro u hu; rw [← HXS.out] at hu; obtain ⟨p, hp, rfl⟩ := List.mem_map.1 hu; exact HSL.out p (List.mem_of_mem_take hp))
                      have HYO := hid (show ∀ u ∈ YS, u.oneCell' = true by intro u hu; rw [← HYS.out] at hu; obtain ⟨p, hp, rfl⟩ := List.mem_map.1 hu; exact HSL.out p (List.mem_of_mem_drop hp))
                      have HNX := hid (show ∀ j u, XS[j]? = some u → (w3.alloc (.cells #[] 26)).cell? ((⟨g, 0, none⟩ : Addr).add j) = some u from fun j u hj => by
                        rw [addr_add0]
                        refine (Later.alloc w3 _).cell (HAT.out j u ?_)
                        rw [← HXS.out, List.map_take, List.getElem?_take] at hj
                        split at hj
                        · exact hj
                        · cases hj)
                      have HINL := hid (show (insK ps K (.slice ua 3 uc, rtL (M, k))).length = K + 1 + (n - K) by rw [(insK_perm ps K _).length_eq]; simp; have := HPN.out; omega)
                      have HINM := hid (show (insK ps K (.slice ua 3 uc, rtL (M, k))).map (·.1) = XS ++ [.slice ua 3 uc] ++ YS by unfold insK; rw [← HXS.out, ← HYS.out]; simp)
                      have HLW := hid (show w.heap.size ≤ w3.heap.size from Nat.le_trans HLr.out.size HL3.out.size)
                      have hkc : (K : Int) ≤ (cg : Int) := by omega
                      have hkp : (K : Int) ≤ (n : Int) := by omega
                      have hpc : (n : Int) ≤ (cg : Int) := by omega
                      have hk0 : (0 : Int) ≤ (K : Int) := by omega
                      have hktn : ((K : Int)).toNat = K := by omega
                      go_wp2_with (at_builtin; refine wpList_append_own_at _ (by rfl) _ _ _ (by rfl) w3.heap.size 26 i0 (.slice none 0 0) 1 24 Try.underlying37 hi hz0 hz1 hz2 rfl (by omega) (.slice (some ⟨w3.heap.size, 0, none⟩) 0 0) 0 [] (by rfl) (by exact HOW.out) ⟨g, 0, none⟩ K cg XS (by rfl) (by exact HXL.out) HNX.out (fun u hu => HXO.out u hu) (by unfold maxLen; omega) (by omega) (by simp) ?_)
                      intro v6 w6 hown6 hgrow6 _ _
                      have HO6 := hid (show w6.ownsRow w3.heap.size 26 1 v6 K XS by simpa using hown6)
                      have HL6 := hid (show Later w3 w6 from (Later.alloc w3 (.cells #[] 26)).grown hgrow6 (by simp) (fun b hb => Nat.le_of_eq (Option.some.inj hb)))
                      have HW6 := hid HL6.out.size
                      clear hown6 hgrow6 HOW HNX
                      by_cases hcq : cg = K
                      · have HNY := hid (show ∀ t u, YS[t]? = some u → w3.cell? ((⟨g, 0, none⟩ : Addr).add t) = some u from fun t u ht => by
                            rw [List.getElem?_eq_none (by have := HYL.out; omega)] at ht; cases ht)
                        clear HAT HXS HYS
                        go_wp2_with fail
                        go_region_held3 (fun _ => True) (trivial) (first | (have hh := HW6; clear hh; refine step_append_atH _ (by rfl) _ _ _ (by rfl) w3.heap.size 26 i0 (.slice none 0 0) 1 24 Try.underlying37 hi hz0 hz1 hz2 rfl (by omega) v6 K XS (by rfl) (by exact (HO6.out.alloc (.cells #[Value.slice ua 3 uc] 26)).drew) _ _ _ [.slice ua 3 uc] (by rfl) (by rfl) (by intro j u hj; rw [World.cell?_drew]; exact World.news_of_block (cs := #[.slice ua 3 uc]) (t := 26) (fr := (0, 0)) (heap_alloc_new w6 _) j u hj) (fun u hu => by simp at hu; subst hu; rfl) (by unfold maxLen; omega) (by omega) (by have := HW6.out; simp; omega) ?_; intro v7 w7 hown7 hgrow7; clear HW6; have HO7 := hid hown7; have HL7 := hid (show Later w3 w7 from ((HL6.out.trans (Later.alloc w6 (.cells #[Value.slice ua 3 uc] 26))).trans (Later.drew _)).grown hgrow7 (by have := HL6.out.size; simp; omega) (fun b hb => (HO6.out.lt b hb).1)); clear hown7 hgrow7) | (have hh := HO7; clear hh; refine step_append_atH _ (by rfl) _ _ _ (by rfl) w3.heap.size 26 i0 (.slice none 0 0) 1 24 Try.underlying37 hi hz0 hz1 hz2 rfl (by omega) _ (K + 1) (XS ++ [.slice ua 3 uc]) (by rfl) (by exact HO7.out) ⟨g, 0, none⟩ (n - K) 0 YS (by rfl) (by exact HYL.out) (fun t u ht => HL7.out.cell (HNY.out t u ht)) (fun u hu => HYO.out u hu) (by unfold maxLen; omega) (by omega) (by have := HL7.out.size; omega) ?_; intro v8 w8 hown8 hgrow8; have HO8 := hid hown8; have HL8 := hid (show Later w3 w8 from HL7.out.grown hgrow8 HL7.out.size (fun b hb => (HO7.out.lt b hb).1)); obtain ⟨a8, c8, rfl, _⟩ := ownsRow_shape hown8; clear hown8 hgrow8 HO7 HL7))
                        go_wp2_with fail
                        have HOZ := hid (show OwnPs w.heap.size w8.heap.size w8 (.slice a8 (K + 1 + (n - K)) c8) (insK ps K (.slice ua 3 uc, rtL (M, k))) from ((HOS.out.later HL3.out).wide (Nat.le_refl _) HL3.out.size).insertK ((HUS.out.later HL3.out).wide (Nat.le_refl _) HL3.out.size) HNE.out HL8.out (by
                          rw [HINL.out, HINM.out]
                          exact ownsRow_base HO8.out HLW.out))
                        go_roundw
                        case rel => exact ⟨k + 1, _, by omega, hkl, by go_num, HOZ.out, HMZ.out, (HLr.out.trans HL3.out).trans HL8.out⟩
                        case measure => simp [intOf]; omega
                      · have HNY := hid (show ∀ t u, YS[t]? = some u → w3.cell? ((⟨g, K, none⟩ : Addr).add t) = some u from fun t u ht => by
                            have h1 := HAT.out (K + t) u (by rw [← HYS.out] at ht; rw [← ht]; simp)
                            rw [← h1]
                            congr 1
                            unfold Addr.add
                            by_cases h0 : t = 0 <;> simp [h0])
                        clear HAT HXS HYS
                        go_wp2_with fail
                        go_region_held3 (fun _ => True) (trivial) (first | (have hh := HW6; clear hh; refine step_append_atH _ (by rfl) _ _ _ (by rfl) w3.heap.size 26 i0 (.slice none 0 0) 1 24 Try.underlying37 hi hz0 hz1 hz2 rfl (by omega) v6 K XS (by rfl) (by exact (HO6.out.alloc (.cells #[Value.slice ua 3 uc] 26)).drew) _ _ _ [.slice ua 3 uc] (by rfl) (by rfl) (by intro j u hj; rw [World.cell?_drew]; exact World.news_of_block (cs := #[.slice ua 3 uc]) (t := 26) (fr := (0, 0)) (heap_alloc_new w6 _) j u hj) (fun u hu => by simp at hu; subst hu; rfl) (by unfold maxLen; omega) (by omega) (by have := HW6.out; simp; omega) ?_; intro v7 w7 hown7 hgrow7; clear HW6; have HO7 := hid hown7; have HL7 := hid (show Later w3 w7 from ((HL6.out.trans (Later.alloc w6 (.cells #[Value.slice ua 3 uc] 26))).trans (Later.drew _)).grown hgrow7 (by have := HL6.out.size; simp; omega) (fun b hb => (HO6.out.lt b hb).1)); clear hown7 hgrow7) | (have hh := HO7; clear hh; refine step_append_atH _ (by rfl) _ _ _ (by rfl) w3.heap.size 26 i0 (.slice none 0 0) 1 24 Try.underlying37 hi hz0 hz1 hz2 rfl (by omega) _ (K + 1) (XS ++ [.slice ua 3 uc]) (by rfl) (by exact HO7.out) ⟨g, K, none⟩ (n - K) (cg - K) YS (by rfl) (by exact HYL.out) (fun t u ht => HL7.out.cell (HNY.out t u ht)) (fun u hu => HYO.out u hu) (by unfold maxLen; omega) (by omega) (by have := HL7.out.size; omega) ?_; intro v8 w8 hown8 hgrow8; have HO8 := hid hown8; have HL8 := hid (show Later w3 w8 from HL7.out.grown hgrow8 HL7.out.size (fun b hb => (HO7.out.lt b hb).1)); obtain ⟨a8, c8, rfl, _⟩ := ownsRow_shape hown8; clear hown8 hgrow8 HO7 HL7))
                        go_wp2_with fail
                        have HOZ := hid (show OwnPs w.heap.size w8.heap.size w8 (.slice a8 (K + 1 + (n - K)) c8) (insK ps K (.slice ua 3 uc, rtL (M, k))) from ((HOS.out.later HL3.out).wide (Nat.le_refl _) HL3.out.size).insertK ((HUS.out.later HL3.out).wide (Nat.le_refl _) HL3.out.size) HNE.out HL8.out (by
                          rw [HINL.out, HINM.out]
                          exact ownsRow_base HO8.out HLW.out))
                        go_roundw
                        case rel => exact ⟨k + 1, _, by omega, hkl, by go_num, HOZ.out, HMZ.out, (HLr.out.trans HL3.out).trans HL8.out⟩
                        case measure => simp [intOf]; omega
                  · obtain ⟨ad, c, hc, hr⟩ := row (i - 1) (by omega)
                    have HB := hid (HK1.out (i - 1) (by omega) (by omega))
                    have hm1 : ((i : Int) - 1).toNat = i - 1 := by omega
                    have hi3 : (0 : Int) < (i : Int) := by omega
                    have hi4 : (0 : Int) ≤ (i : Int) - 1 := by omega
                    have hi5 : (i : Int) - 1 < (n : Int) := by omega
                    have HRI := hid hr
                    clear row hr
                    go_wp2_with fail
                    refine (riBefore_as HB.out (HUS.out.later HL3.out).ints HRI.out).mono ?_
                    rintro e w2 ⟨rfl, hD⟩
                    have HL2 := hid (HL3.out.trans hD.later)
                    clear hD
                    go_wp2_with fail
                    go_roundw
                    case rel => exact ⟨i - 1, by omega, by omega, by go_num, HL2.out⟩
                    case measure => simp [intOf]; omega
            · have HX := hid (show rowP most M (k + 1) = rowP most M k by rw [HSU.out, if_neg (by unfold inR; simp only [hp, Bool.true_and, decide_eq_true_iff]; exact hz)])
              clear hp
              go_wp2_with fail
              refine (HT.out _).mono ?_
              rintro e w2 ⟨rfl, rfl⟩
              go_wp2_with fail
              go_roundw
              case rel => exact ⟨k + 1, ps, by omega, hkl, by go_num, HO.out, by rw [HX.out]; exact HR.out, HLr.out⟩
              case measure => simp [intOf]; omega
        · have hkM' : k = M := by omega
          subst hkM'
          have HX := hid (show ps.map (·.2) = (allR most (k + 1)).map rtL from HR.out)
          go_wp2_with fail
          go_roundw
          case rel => exact ⟨k + 1, ps, by omega, by omega, by go_num, HO.out, HX.out, HLr.out⟩
          case measure => simp [intOf]; omega
    · have HE := hid (show allR most 72 = allR most M from allR_stop (by omega) hM)
      go_wp2_with fail
      go_ret
      refine ⟨_, rfl, ?_, HLr.out⟩
      rw [HE.out, ← HR.out]
      exact HO.out.rows
end Go.Proofs.Ytdahhcigphhfdac
