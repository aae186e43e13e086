/- Four curvatures: all roots up to an outer circle (the model). -/
import Derived.Test.YtoaopmafokoaoabQdX2
import Derived.Test.YtoaopmafokoaoabOwPr
import Derived.Laws.AppendOwnNone
namespace Go.Proofs.Ytoaopmafokoaoab
open Go.RowKit

def allRts (k : Nat) : List (List Int) := (List.range k).flatMap fun j : Nat => rootsN ((j : Int) + 1)
theorem allRts_succ (k : Nat) : allRts (k + 1) = allRts k ++ rootsN ((k : Int) + 1) := by
  unfold allRts; rw [List.range_succ, List.flatMap_append]; simp
def allRootsAns (n : Int) : Option (List (List Int)) := if within 1 30 n = true then some (allRts n.toNat) else none
theorem rootsN_len {n : Int} (hn : 1 ≤ n ∧ n ≤ 30) : (rootsN n).length ≤ 300000 := by
  have := rootsTo_len n (2 * n - 1).toNat
  unfold rootsN; omega
theorem allRts_len (k : Nat) (hk : k ≤ 30) : (allRts k).length ≤ k * 300000 := by
  induction k with
  | zero => simp [allRts]
  | succ k ih =>
    rw [allRts_succ, List.length_append]
    have h1 := ih (by omega)
    have h2 := rootsN_len (n := (k : Int) + 1) (by omega)
    omega
theorem OwnInts.neOldQ {lo hi lo2 hi2 : Nat} {w w2 : World} {v v2 : Value} {zs zs2 : List Int} (h : OwnInts lo hi w v zs) (h2 : OwnInts lo2 hi2 w2 v2 zs2) (hh : hi ≤ lo2) : ∀ k, v.ownBlock = some k → v2.ownBlock ≠ some k := by
  intro k hk hk2
  have h3 := h.2 k hk
  have h4 := (h2.1.lt k hk2).1
  omega
theorem OwnPs.appendQ {lo hi1 lo2 : Nat} {w w' : World} {o v v' : Value} {ps qs : List Pr} (h1 : OwnPs lo hi1 w o ps) (h2 : OwnPs lo2 w.heap.size w v qs) (hh : hi1 ≤ lo2) (hl : lo ≤ lo2) (hi1w : hi1 ≤ w.heap.size)
    (ho : w'.ownsRow lo 24 1 v' (ps.length + qs.length) (ps.map (·.1) ++ qs.map (·.1))) (hg : w.grownBy w' o.ownBlock) : OwnPs lo w'.heap.size w' v' (ps ++ qs) := by
  refine ⟨by rw [List.length_append, List.map_append]; exact ho, fun k hk => (ho.lt k hk).2, fun p hp => ?_, ?_⟩
  · rcases List.mem_append.1 hp with h | h
    · exact ((h1.ints p h).keptH h1.own hg).wide (Nat.le_refl _) (Nat.le_trans hi1w hg.size)
    · exact ((h2.ints p h).keptH h1.own hg).wide hl hg.size
  · rw [List.pairwise_append]
    exact ⟨h1.ne, h2.ne, fun p hp q hq => (h1.ints p hp).neOldQ (h2.ints q hq) hh⟩
theorem OwnPs.noneQ (lo hi : Nat) (w : World) : OwnPs lo hi w (.slice none 0 0) [] := ⟨World.ownsRow_nil _ _ _ _, fun k hk => by simp [Value.ownBlock] at hk, fun p hp => absurd hp (by simp), List.Pairwise.nil⟩
set_option maxRecDepth 20000 in
set_option maxHeartbeats 4000000 in
theorem specAllRootsUpTo_any (n : Int) (w : World) :
    Calls Try.prog 48 #[.int .i64 n] w fun e w' => RowsAns w (allRootsAns n) e w' := by
  obtain ⟨i0, hi, hz0, hz1, hz2⟩ := info_parts Try.infoInts
  cases hn : within 1 30 n
  · have HN := hid hn
    have HA := hid (show allRootsAns n = none by unfold allRootsAns; rw [hn]; simp)
    clear hn
    go_enter Try.func48, Try.ntmps48
    go_wp2_with fail
    refine (l1In_as _ _ _ _ _ HN.out).mono ?_
    rintro e w' ⟨rfl, rfl⟩
    go_wp2_with fail
    go_ret2
    rw [HA.out]
    exact ⟨_, rfl, OwnRows.noneH _ _ _, Later.refl _⟩
  · have HN := hid hn
    have hb := within130.1 hn
    obtain ⟨N, rfl⟩ : ∃ N : Nat, n = (N : Int) := ⟨n.toNat, by omega⟩
    have hN30 : N ≤ 30 := by omega
    have HA := hid (show allRootsAns (N : Int) = some (allRts N) by unfold allRootsAns; rw [if_pos hn]; simp)
    clear hn hb
    go_enter Try.func48, Try.ntmps48
    go_wp2_with fail
    refine (l1In_as _ _ _ _ _ HN.out).mono ?_
    rintro e w' ⟨rfl, rfl⟩
    go_wp2_with fail
    go_loopw [4, 5] (fun o i wr => ∃ (k : Nat) (ps : List Pr), k ≤ N ∧ i = .int .i64 ((k : Int) + 1) ∧ OwnPs w.heap.size wr.heap.size wr o ps ∧ ps.map (·.2) = allRts k ∧ Later w wr) (fun _ i _ => N + 1 - (intOf i).toNat)
    case atStart => exact ⟨0, [], Nat.zero_le _, by simp, OwnPs.noneQ _ _ _, rfl, Later.refl _⟩
    case round =>
      obtain ⟨k, ps, hk, rfl, hO, hm, hL⟩ := hrel
      have HOo := hid hO
      have HM := hid hm
      have HL := hid hL
      have hpl : ps.length ≤ 9000000 := by have := allRts_len k (by omega); rw [← hm, List.length_map] at this; omega
      clear hO hm hL
      by_cases hlt : k < N
      · have hlI : (k : Int) + 1 ≤ (N : Int) := by omega
        have HNU := hid (allRts_succ k)
        have HRL := hid (rootsN_len (n := (k : Int) + 1) (by omega))
        have HB := hid (show 1 ≤ (k : Int) + 1 ∧ (k : Int) + 1 ≤ 30 by omega)
        obtain ⟨m, hm⟩ : ∃ m : Int, (k : Int) + 1 = m := ⟨_, rfl⟩
        rw [hm] at HNU HRL HB
        have HMM := hid hm
        rw [hm]
        go_wp2_with fail
        refine (apRoots_any m _ HB.out).mono ?_
        rintro e w5 ⟨v5, rfl, ho5, hL5⟩
        obtain ⟨qs, hqs, hqm⟩ := ho5.ps
        have HO5 := hid hqs
        have HO1 := hid (HOo.out.later hL5)
        have HQM := hid hqm
        have hql : qs.length ≤ 300000 := by have := HRL.out; rw [← hqm, List.length_map] at this; exact this
        have HL5 := hid (HL.out.trans hL5)
        have HW5 := hid hL5.size
        have HWr := hid HL.out.size
        clear ho5 hqs hqm hL5
        rcases HO5.out.own.2 with ⟨rfl, h0⟩ | ⟨g5, c5, cur, rfl, _⟩
        · have hq0 : qs = [] := List.eq_nil_of_length_eq_zero h0
          subst hq0
          have HE := hid (show rootsN m = [] from HQM.out.symm)
          have HOW := hid HO1.out.own
          clear h0 hql
          go_wp2_with (at_builtin; refine wpList_append_own_none (by rfl) _ _ _ (by rfl) w.heap.size 24 i0 1 Try.underlying26 hi _ _ _ (by rfl) HOW.out (by rfl) ?_)
          go_roundw
          case rel => exact ⟨k + 1, ps, hlt, by rw [← HMM.out]; go_num, HO1.out.wide (Nat.le_refl _) HW5.out, by rw [HM.out, HNU.out, HE.out, List.append_nil], HL5.out⟩
          case measure => rw [← HMM.out]; simp [intOf]; omega
        · have hhd := (ownPs_head HO5.out).2.2
          have HNX := hid (show ∀ j u, (qs.map (·.1))[j]? = some u → w5.cell? ((⟨g5, 0, none⟩ : Addr).add j) = some u from fun j u hj => by
            have hj2 : j < qs.length := by
              rcases Nat.lt_or_ge j qs.length with h | h
              · exact h
              · rw [List.getElem?_eq_none (by simpa using h)] at hj; cases hj
            rw [addr_add0, hhd j hj2, ← hj]
            simp [hj2])
          have HXO := hid (show ∀ u ∈ qs.map (·.1), u.oneCell' = true by intro u hu; obtain ⟨p, hp, rfl⟩ := List.mem_map.1 hu; obtain ⟨_, _, e, _⟩ := (HO5.out.ints p hp).shape; rw [e]; rfl)
          clear hhd
          go_wp2_with (at_builtin; refine wpList_append_own_at _ (by rfl) _ _ _ (by rfl) w.heap.size 24 i0 (.slice none 0 0) 1 24 Try.underlying26 hi hz0 hz1 hz2 rfl (by omega) _ ps.length (ps.map (·.1)) (by rfl) (by exact HO1.out.own) ⟨g5, 0, none⟩ qs.length c5 (qs.map (·.1)) (by rfl) (by simp) HNX.out (fun u hu => HXO.out u hu) (by unfold maxLen; omega) (by omega) HL5.out.size ?_)
          intro v6 w6 hown6 hgrow6 _ _
          have HO6 := hid (OwnPs.appendQ HO1.out HO5.out (Nat.le_refl _) HWr.out HW5.out hown6 hgrow6)
          have HL6 := hid (show Later w w6 from HL5.out.grown hgrow6 HL5.out.size (fun b hb => (HO1.out.own.lt b hb).1))
          clear hown6 hgrow6
          go_wp2_with fail
          go_roundw
          case rel => exact ⟨k + 1, ps ++ qs, hlt, by rw [← HMM.out]; go_num, HO6.out, by rw [List.map_append, HM.out, HQM.out, HNU.out], HL6.out⟩
          case measure => rw [← HMM.out]; simp [intOf]; omega
      · obtain rfl : k = N := by omega
        have hlI : ¬ (k : Int) + 1 ≤ (k : Int) := by omega
        go_wp2_with fail
        go_ret2
        rw [HA.out]
        exact ⟨_, rfl, by simp only [Option.getD_some]; rw [← HM.out]; exact HOo.out.rows, HL.out⟩
end Go.Proofs.Ytoaopmafokoaoab
