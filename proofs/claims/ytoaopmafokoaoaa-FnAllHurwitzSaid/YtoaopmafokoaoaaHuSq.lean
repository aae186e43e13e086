/- Equations of Hurwitz: FundamentalsUpTo (the program). -/
import Derived.Test.YtoaopmafokoaoaaHuSop
import Derived.Test.YtoaopmafokoaoaaHuDlx
import Derived.Test.YtoaopmafokoaoaaHuDij
import Derived.Test.YtoaopmafokoaoaaHuFst
namespace Go.Proofs.Ytoaopmafokoaoaa
open Go.RowKit

theorem solQ_sol {parts a b most : Int} {L : List So} (h : solQ parts a b most = some L) : L.length ≤ 500 ∧ ∀ s ∈ L, QS a b s := by
  unfold solQ at h
  split at h
  · rename_i hh
    simp only [Option.some.injEq] at h
    subst h
    refine ⟨hh.2, fun s hs => ?_⟩
    obtain ⟨hp, hg, hm1, hm2⟩ := taskB_iff.1 hh.1
    have hm : soL s ∈ (foundQ parts a b most).map soL := List.mem_map.2 ⟨s, hs, rfl⟩
    rw [foundQ_map hh.1] at hm
    have hS : Sol (soL s) a b := Sol.of hg (List.mem_filter.1 (show soL s ∈ allF a b parts.toNat [] most.toNat from hm)).2
    obtain ⟨x, y, z, t, e, hq⟩ := hS.q4
    have hse : s = (x, y, z, t) := by
      have := congrArg toSo e
      rw [show toSo (soL s) = s from toSo_qL _ _ _ _, toSo_qL] at this
      exact this
    exact ⟨hS, by rw [hse]; exact hq⟩
  · cases h
set_option maxRecDepth 20000 in
set_option maxHeartbeats 1000000 in
theorem indexFuncNil_any (fv : Value) (w : World) : Calls Try.prog 114 #[.slice none 0 0, fv] w fun e w' => e = .returned (.int .i64 (-1)) ∧ w = w' := by
  go_enter Try.func114, Try.ntmps114
  go_wp2_with fail
  go_loopw [8] (fun i wr => i = .int .i64 0 ∧ w = wr) (fun _ _ => 0)
  case atStart => exact ⟨rfl, rfl⟩
  case round =>
    obtain ⟨rfl, rfl⟩ := hrel
    go_wp2_with fail
    go_ret
    exact ⟨rfl, rfl⟩
set_option maxRecDepth 20000 in
set_option maxHeartbeats 1000000 in
theorem deleteFuncNil_any (fv : Value) (w : World) : Calls Try.prog 68 #[.slice none 0 0, fv] w fun e w' => e = .returned (.slice none 0 0) ∧ w = w' := by
  go_enter Try.func68, Try.ntmps68
  go_wp2_with fail
  refine (indexFuncNil_any fv w).mono ?_
  rintro e w' ⟨rfl, rfl⟩
  go_wp2_with fail
  go_ret
  exact ⟨rfl, rfl⟩
set_option maxRecDepth 20000 in
set_option maxHeartbeats 1000000 in
theorem fundTest (a b : Int) (B : Nat) (w0 : World) (hb : w0.cell? ⟨B, 0, none⟩ = some (.int .i64 a)) :
    Tests w0 66 #[.pointer (some ⟨B, 0, none⟩)] (QS a b) (fun s => !lastB a (soL s)) := by
  intro w hL s hs
  obtain ⟨p, q, r, u⟩ := s
  have HS := hid (show Sol (qL p q r u) a b from hs.1)
  obtain ⟨c0, c1, c2, c3⟩ := arr4_alloc w p q r u
  have hA := Later.alloc w (.cells #[.int .i64 p, .int .i64 q, .int .i64 r, .int .i64 u] 69)
  have ca := hA.cell (hL.cell hb)
  have HL := hid hA
  clear hA hs hb hL
  show Calls Try.prog 66 #[.agg #[.int .i64 p, .int .i64 q, .int .i64 r, .int .i64 u], .pointer (some ⟨B, 0, none⟩)] w fun e w' => e = .returned (.bool (!lastB a (qL p q r u))) ∧ Later w w'
  go_enter Try.func66, Try.ntmps66
  go_wp2_with fail
  generalize w.alloc (.cells #[.int .i64 p, .int .i64 q, .int .i64 r, .int .i64 u] 69) = w1 at c0 c1 c2 c3 ca HL ⊢
  refine (isFundamentalS_any p q r u a b _ HS.out).mono ?_
  rintro e w2 ⟨rfl, hL2⟩
  have HL2 := hid (HL.out.trans hL2)
  clear hL2 c0 c1 c2 c3 ca
  go_wp2_with fail
  go_ret
  exact ⟨rfl, HL2.out⟩
set_option maxRecDepth 20000 in
set_option maxHeartbeats 1000000 in
theorem implFundamentalsUpTo_any (parts a b most : Int) (w : World) : Calls Try.prog 19 #[.int .i64 parts, .int .i64 a, .int .i64 b, .int .i64 most] w fun e w' => RowsAns w (fundsAns parts a b most) e w' := by
  have HFA := hid (fundsAns_of parts a b most)
  have HM := hid (solQ_map parts a b most)
  have HC := hid (fun w => solutionsUpTo_any parts a b most w)
  have hle := fun L h => solQ_sol (parts := parts) (a := a) (b := b) (most := most) (L := L) h
  have hA := Later.alloc w (.cells #[.int .i64 a] 3)
  have hca : (w.alloc (.cells #[.int .i64 a] 3)).cell? ⟨w.heap.size, 0, none⟩ = some (.int .i64 a) := by simp [go_sem]
  have HL := hid hA
  obtain ⟨o, ho⟩ : ∃ o, solQ parts a b most = o := ⟨_, rfl⟩
  rw [ho] at HM HC
  simp only [ho] at hle
  clear ho hA
  cases o with
  | none =>
    have HA := hid (show fundsAns parts a b most = none by rw [HFA.out, ← HM.out]; rfl)
    clear hle
    go_enter Try.func19, Try.ntmps19
    go_wp2_with fail
    refine (HC.out _).mono ?_
    rintro e w1 ⟨v1, rfl, ho1, hL1⟩
    have HL1 := hid (HL.out.trans hL1)
    clear hL1 ho1
    go_wp2_with fail
    go_ret2
    rw [HA.out]
    exact ⟨_, rfl, OwnRows.noneH _ _ _, HL1.out⟩
  | some L =>
    obtain ⟨hL5, hall⟩ := hle L rfl
    obtain ⟨M, hM⟩ : ∃ M, (L.filter fun s => !(!lastB a (soL s))) = M := ⟨_, rfl⟩
    have HMF := hid hM
    have hml : M.length ≤ 500 := by rw [← hM]; exact Nat.le_trans (List.length_filter_le _ _) hL5
    have hmap : M.map soL = (L.map soL).filter (lastB a) := by
      rw [← hM]
      have : ∀ X : List So, ((X.filter fun s => !(!lastB a (soL s))).map soL) = (X.map soL).filter (lastB a) := by
        intro X
        induction X with
        | nil => rfl
        | cons x X ih =>
          simp only [List.map_cons, List.filter_cons, Bool.not_not]
          cases lastB a (soL x)
          · simp only [Bool.false_eq_true, if_false]; simpa using ih
          · simp only [if_true, List.map_cons]; congr 1; simpa using ih
      exact this L
    obtain ⟨R, hR⟩ : ∃ R, M.map soL = R := ⟨_, rfl⟩
    have HR := hid hR
    have HA := hid (show fundsAns parts a b most = some R by rw [HFA.out, ← HM.out, ← hR, hmap]; rfl)
    have HALL := hid hall
    have HT := hid (fundTest a b w.heap.size (w.alloc (.cells #[.int .i64 a] 3)) hca)
    clear hle hall hM hmap hR
    go_enter Try.func19, Try.ntmps19
    go_wp2_with fail
    generalize w.alloc (.cells #[.int .i64 a] 3) = w1 at HL hca HT ⊢
    obtain ⟨B, hB⟩ : ∃ B, w.heap.size = B := ⟨_, rfl⟩
    have HWB := hid hB
    rw [hB] at hca HT ⊢
    clear hB
    refine (HC.out _).mono ?_
    rintro e w2 ⟨v2, rfl, ho2, hL2⟩
    have ho2' : OwnSols w1.heap.size w2 v2 L := ho2
    have HL2 := hid hL2
    have HW1 := hid HL.out.size
    clear hL2 ho2 hca
    rcases ho2'.2 with ⟨rfl, h0⟩ | ⟨g, cg, cur, rfl, _⟩
    · have hLe : L = [] := List.eq_nil_of_length_eq_zero h0
      subst hLe
      have hMe := HMF.out
      simp only [List.filter_nil] at hMe
      subst hMe
      have hRe := HR.out
      simp only [List.map_nil] at hRe
      subst hRe
      clear ho2' h0
      go_wp2_with fail
      refine (deleteFuncNil_any _ w2).mono ?_
      rintro e w' ⟨rfl, rfl⟩
      have HLa := hid (HL.out.trans HL2.out)
      go_wp2_with fail
      refine (listsOfS_any (.slice none 0 0) [] w2 (by simp) ⟨none, 0, rfl, by simp, fun i hi => absurd hi (Nat.not_lt_zero i)⟩).mono ?_
      rintro e w4 ⟨v4, rfl, ho4, hL4⟩
      have ho4' : OwnRows w2.heap.size w4.heap.size w4 v4 [] := ho4
      obtain ⟨a4, c4, rfl, _⟩ := ho4'.shape
      have HO4 := hid (ho4'.wide HLa.out.size (Nat.le_refl _))
      have HL4 := hid (HLa.out.trans hL4)
      clear ho4 ho4' hL4
      go_wp2_with fail
      go_ret2
      rw [HA.out]
      exact ⟨_, rfl, HO4.out, HL4.out⟩
    · have HO2 := hid ho2'
      clear ho2'
      go_wp2_with fail
      refine (deleteFunc_any w1 66 #[.pointer (some ⟨B, 0, none⟩)] Try.call66 (QS a b) (fun s => !lastB a (soL s)) HT.out g cg L w2 HL2.out (Nat.le_refl _) HALL.out (by omega) HO2.out).mono ?_
      rintro e w3 ⟨rfl, ho3, hL3⟩
      rw [HMF.out] at ho3 ⊢
      have HSO := hid (ho3.sols (by omega))
      have HL3 := hid (HL.out.trans hL3)
      clear ho3 hL3
      go_wp2_with fail
      refine (listsOfS_any _ M _ (by omega) HSO.out).mono ?_
      rintro e w4 ⟨v4, rfl, ho4, hL4⟩
      rw [HR.out] at ho4
      obtain ⟨a4, c4, rfl, _⟩ := ho4.shape
      have HO4 := hid (ho4.wide HL3.out.size (Nat.le_refl _))
      have HL4 := hid (HL3.out.trans hL4)
      clear ho4 hL4
      go_wp2_with fail
      go_ret2
      rw [HA.out]
      exact ⟨_, rfl, HO4.out, HL4.out⟩
end Go.Proofs.Ytoaopmafokoaoaa
