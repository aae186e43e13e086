/- Four curvatures: RootsWith, AllRootsUpTo (the program). -/
import Derived.Test.YtoaopmafokoaoabQdZ2
import Derived.Test.YtoaopmafokoaoabQdAr
namespace Go.Proofs.Ytoaopmafokoaoab
open Go.RowKit

set_option maxRecDepth 20000 in
set_option maxHeartbeats 2000000 in
theorem implRootsWith_any (n : Int) (w : World) :
    Calls Try.prog 43 #[.int .i64 n] w fun e w' => RowsAns w (rootsAns n) e w' := by
  cases hn : within 1 30 n
  · have HN := hid hn
    have HA := hid (show rootsAns n = none by unfold rootsAns; rw [hn]; simp)
    clear hn
    go_enter Try.func43, Try.ntmps43
    go_wp2_with fail
    refine (isOuter_as _ _ _ HN.out).mono ?_
    rintro e w' ⟨rfl, rfl⟩
    go_wp2_with fail
    go_ret2
    rw [HA.out]
    exact ⟨_, rfl, OwnRows.noneH _ _ _, Later.refl _⟩
  · have HN := hid hn
    have HA := hid (show rootsAns n = some (rootsN n) by unfold rootsAns; rw [if_pos hn])
    have HB := hid (within130.1 hn)
    clear hn
    go_enter Try.func43, Try.ntmps43
    go_wp2_with fail
    refine (isOuter_as _ _ _ HN.out).mono ?_
    rintro e w' ⟨rfl, rfl⟩
    go_wp2_with fail
    refine (rootsWith_any n _ HB.out).mono ?_
    rintro e w2 ⟨v2, L, rfl, ho, hm, hL⟩
    have HM := hid hm
    have HLN := hid (show L.length ≤ 300000 by have := rootsN_len HB.out; rw [← hm, List.length_map] at this; exact this)
    have HO := hid ho
    have HL := hid hL
    obtain ⟨a2, c2, rfl, _⟩ := ho.shape
    clear ho hm hL
    go_wp2_with fail
    refine (listsOfQ_any _ L _ (by have := HLN.out; omega) (HO.out.qs (by have := HLN.out; omega))).mono ?_
    rintro e w4 ⟨v4, rfl, ho4, hL4⟩
    rw [HM.out] at ho4
    obtain ⟨a4, c4, rfl, _⟩ := ho4.shape
    have HO4 := hid (ho4.wide HL.out.size (Nat.le_refl _))
    have HL4 := hid (HL.out.trans hL4)
    clear ho4 hL4
    go_wp2_with fail
    go_ret2
    rw [HA.out]
    exact ⟨_, rfl, HO4.out, HL4.out⟩
theorem qCells_append (L M : List Qd4) : qCells (L ++ M) = qCells L ++ qCells M := by simp [qCells]
theorem qCells_one (L : List Qd4) : ∀ u ∈ qCells L, u.oneCell' = true := by
  intro u hu
  obtain ⟨q, _, hq⟩ := List.mem_flatMap.1 hu
  simp [qVs] at hq
  rcases hq with rfl | rfl | rfl | rfl <;> rfl
set_option maxRecDepth 20000 in
set_option maxHeartbeats 4000000 in
theorem implAllRootsUpTo_any (n : Int) (w : World) :
    Calls Try.prog 47 #[.int .i64 n] w fun e w' => RowsAns w (allRootsAns n) e w' := by
  obtain ⟨i0, hi, hz0, hz1, hz2⟩ := info_parts Try.infoQd
  cases hn : within 1 30 n
  · have HN := hid hn
    have HA := hid (show allRootsAns n = none by unfold allRootsAns; rw [hn]; simp)
    clear hn
    go_enter Try.func47, Try.ntmps47
    go_wp2_with fail
    refine (isOuter_as _ _ _ HN.out).mono ?_
    rintro e w' ⟨rfl, rfl⟩
    go_wp2_with fail
    go_ret2
    rw [HA.out]
    exact ⟨_, rfl, OwnRows.noneH _ _ _, Later.refl _⟩
  · have HN := hid hn
    have hb := within130.1 hn
    obtain ⟨N, rfl⟩ : ∃ N : Nat, n = (N : Int) := ⟨n.toNat, by omega⟩
    have hN30 : N ≤ 30 := by omega
    have HA := hid (show allRootsAns (N : Int) = some (allRts N) by unfold allRootsAns; rw [if_pos hn]; simp)
    clear hn hb
    go_enter Try.func47, Try.ntmps47
    go_wp2_with fail
    refine (isOuter_as _ _ _ HN.out).mono ?_
    rintro e w' ⟨rfl, rfl⟩
    go_wp2_with fail
    go_loopw [4, 5] (fun o i wr => ∃ (k : Nat) (L : List Qd4), k ≤ N ∧ i = .int .i64 ((k : Int) + 1) ∧ OwnQs w.heap.size wr o L ∧ L.map qsL = allRts k ∧ Later w wr) (fun _ i _ => N + 1 - (intOf i).toNat)
    case atStart => exact ⟨0, [], Nat.zero_le _, by simp, OwnQs.none _ _, rfl, Later.refl _⟩
    case round =>
      obtain ⟨k, L, hk, rfl, hO, hm, hL⟩ := hrel
      have HOo := hid hO
      have HM := hid hm
      have HL := hid hL
      have hpl : L.length ≤ 9000000 := by have := allRts_len k (by omega); rw [← hm, List.length_map] at this; omega
      obtain ⟨pa, pc, rfl, _⟩ := hO.shape
      clear hO hm hL
      by_cases hlt : k < N
      · have hlI : (k : Int) + 1 ≤ (N : Int) := by omega
        have HNU := hid (allRts_succ k)
        have HRL := hid (rootsN_len (n := (k : Int) + 1) (by omega))
        have HB := hid (show 1 ≤ (k : Int) + 1 ∧ (k : Int) + 1 ≤ 30 by omega)
        obtain ⟨m, hm⟩ : ∃ m : Int, (k : Int) + 1 = m := ⟨_, rfl⟩
        rw [hm] at HNU HRL HB
        have HMM := hid hm
        rw [hm]
        go_wp2_with fail
        refine (rootsWith_any m _ HB.out).mono ?_
        rintro e w5 ⟨v5, M, rfl, ho5, hqm, hL5⟩
        have HO5 := hid ho5
        have HO1 := hid (HOo.out.later hL5)
        have HQM := hid hqm
        have hql : M.length ≤ 300000 := by have := HRL.out; rw [← hqm, List.length_map] at this; exact this
        have HL5 := hid (HL.out.trans hL5)
        clear ho5 hqm hL5
        rcases HO5.out.2 with ⟨rfl, h0⟩ | ⟨g5, c5, cur, rfl, _⟩
        · have hq0 : M = [] := List.eq_nil_of_length_eq_zero h0
          subst hq0
          have HE := hid (show rootsN m = [] from HQM.out.symm)
          clear h0 hql
          go_wp2_with (at_builtin; refine wpList_append_own_none (by rfl) _ _ _ (by rfl) w.heap.size 62 i0 4 Try.underlying57 hi _ _ _ (by rfl) HO1.out (by rfl) ?_)
          go_roundw
          case rel => exact ⟨k + 1, L, hlt, by rw [← HMM.out]; go_num, HO1.out, by rw [HM.out, HNU.out, HE.out, List.append_nil], HL5.out⟩
          case measure => rw [← HMM.out]; simp [intOf]; omega
        · have h5' : w5.ownsRow wr.heap.size 62 4 (.slice (some ⟨g5, 0, none⟩) M.length c5) M.length (qCells M) := HO5.out
          have HNX := hid (show ∀ j u, (qCells M)[j]? = some u → w5.cell? ((⟨g5, 0, none⟩ : Addr).add j) = some u from fun j u hj => by
            have hj2 : j < M.length * 4 := by
              rcases Nat.lt_or_ge j (M.length * 4) with h | h
              · exact h
              · rw [List.getElem?_eq_none (by rw [qCells_len]; exact h)] at hj; cases hj
            rw [addr_add0, h5'.cellAt j hj2, hj])
          have HXO := hid (qCells_one M)
          have HML := hid (qCells_len M)
          clear h5'
          go_wp2_with (at_builtin; refine wpList_append_own_at _ (by rfl) _ _ _ (by rfl) w.heap.size 62 i0 (.agg #[.int .i64 0, .int .i64 0, .int .i64 0, .int .i64 0]) 4 32 Try.underlying57 hi hz0 hz1 hz2 rfl (by omega) _ L.length (qCells L) (by rfl) (by exact HO1.out) ⟨g5, 0, none⟩ M.length c5 (qCells M) (by rfl) HML.out HNX.out (fun u hu => HXO.out u hu) (by unfold maxLen; omega) (by omega) HL5.out.size ?_)
          intro v6 w6 hown6 hgrow6 _ _
          have HO6 := hid (show OwnQs w.heap.size w6 v6 (L ++ M) by unfold OwnQs; rw [List.length_append, qCells_append]; exact hown6)
          have HL6 := hid (show Later w w6 from HL5.out.grown hgrow6 HL5.out.size (fun b hb => (HO1.out.lt b hb).1))
          clear hown6 hgrow6
          go_wp2_with fail
          go_roundw
          case rel => exact ⟨k + 1, L ++ M, hlt, by rw [← HMM.out]; go_num, HO6.out, by rw [List.map_append, HM.out, HQM.out, HNU.out], HL6.out⟩
          case measure => rw [← HMM.out]; simp [intOf]; omega
      · obtain rfl : k = N := by omega
        have hlI : ¬ (k : Int) + 1 ≤ (k : Int) := by omega
        go_wp2_with fail
        refine (listsOfQ_any _ L _ (by omega) (HOo.out.qs (by omega))).mono ?_
        rintro e w4 ⟨v4, rfl, ho4, hL4⟩
        rw [HM.out] at ho4
        obtain ⟨a4, c4, rfl, _⟩ := ho4.shape
        have HO4 := hid (ho4.wide HL.out.size (Nat.le_refl _))
        have HL4 := hid (HL.out.trans hL4)
        clear ho4 hL4
        go_wp2_with fail
        go_ret2
        rw [HA.out]
        exact ⟨_, rfl, HO4.out, HL4.out⟩
end Go.Proofs.Ytoaopmafokoaoab
