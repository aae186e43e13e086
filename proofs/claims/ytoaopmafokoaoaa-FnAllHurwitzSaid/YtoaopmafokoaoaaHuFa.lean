/- Equations of Hurwitz: all solutions up to a bound (the model). -/
import Derived.Test.YtoaopmafokoaoaaHuUx
namespace Go.Proofs.Ytoaopmafokoaoaa
open Go.RowKit

/-- All numbers that do not rise and go on a list, m of them. -/
def visP : Nat → List Int → Nat → List (List Int)
  | 0, pre, _ => [pre]
  | m + 1, pre, most => (List.range most).flatMap fun x => visP m (pre ++ [((x + 1 : Nat) : Int)]) (x + 1)
def allF (a b : Int) (m : Nat) (pre : List Int) (most : Nat) : List (List Int) := (visP m pre most).filter fun l => solB l a b
def allK (a b : Int) (m : Nat) (pre : List Int) (k : Nat) : List (List Int) := (List.range k).flatMap fun x => allF a b m (pre ++ [((x + 1 : Nat) : Int)]) (x + 1)
theorem filter_flatMapH {α β : Type} (l : List α) (f : α → List β) (p : β → Bool) : (l.flatMap f).filter p = l.flatMap fun x => (f x).filter p := by
  induction l with
  | nil => rfl
  | cons x l ih => simp [ih]
theorem allF_succ (a b : Int) (m : Nat) (pre : List Int) (most : Nat) : allF a b (m + 1) pre most = allK a b m pre most := by
  unfold allK
  show ((List.range most).flatMap fun x => visP m (pre ++ [((x + 1 : Nat) : Int)]) (x + 1)).filter _ = _
  rw [filter_flatMapH]; rfl
theorem allK_succ (a b : Int) (m : Nat) (pre : List Int) (k : Nat) : allK a b m pre (k + 1) = allK a b m pre k ++ allF a b m (pre ++ [((k + 1 : Nat) : Int)]) (k + 1) := by
  unfold allK
  rw [List.range_succ, List.flatMap_append]
  simp
theorem visP_len (m : Nat) : ∀ (pre : List Int) (most : Nat), most ≤ 40 → (visP m pre most).length ≤ 40 ^ m := by
  induction m with
  | zero => intro pre most _; simp [visP]
  | succ m ih =>
    intro pre most hm
    have key : ∀ k, k ≤ most → ((List.range k).flatMap fun x => visP m (pre ++ [((x + 1 : Nat) : Int)]) (x + 1)).length ≤ k * 40 ^ m := by
      intro k
      induction k with
      | zero => intro _; simp
      | succ k ih2 =>
        intro hk
        rw [List.range_succ, List.flatMap_append, List.length_append]
        have h1 := ih2 (by omega)
        have h2 := ih (pre ++ [((k + 1 : Nat) : Int)]) (k + 1) (by omega)
        simp only [List.flatMap_cons, List.flatMap_nil, List.append_nil]
        rw [Nat.add_mul, Nat.one_mul]
        omega
    have h3 := key most (Nat.le_refl _)
    have h4 : most * 40 ^ m ≤ 40 * 40 ^ m := Nat.mul_le_mul_right _ hm
    show ((List.range most).flatMap fun x => visP m (pre ++ [((x + 1 : Nat) : Int)]) (x + 1)).length ≤ _
    rw [Nat.pow_succ, Nat.mul_comm (40 ^ m) 40]
    omega
theorem allK_len (a b : Int) (m : Nat) (pre : List Int) (k : Nat) (hk : k ≤ 40) : (allK a b m pre k).length ≤ 40 ^ (m + 1) := by
  rw [← allF_succ]
  exact Nat.le_trans (List.length_filter_le _ _) (visP_len (m + 1) pre k hk)
theorem pow40 (m : Nat) (hm : m ≤ 4) : 40 ^ m ≤ 2560000 := by
  have h : m = 0 ∨ m = 1 ∨ m = 2 ∨ m = 3 ∨ m = 4 := by omega
  rcases h with rfl | rfl | rfl | rfl | rfl <;> decide
theorem l1OwnV_any (v : Value) (zs : List Int) (w : World) (hb : zs.length ≤ 1000) (h : Ints w v zs) :
    Calls Try.prog 56 #[v] w fun e w' => MadeInts w zs e w' := by
  obtain ⟨a, c, rfl, hl, hc⟩ := id h
  cases a with
  | none =>
    have h0 : zs = [] := by
      cases zs with
      | nil => rfl
      | cons z zs => obtain ⟨ad, e, _⟩ := hc 0 (by simp); cases e
    subst h0
    exact l1OwnN_any c w
  | some ad => exact l1OwnH_any ad zs.length c zs w rfl (by omega) h
theorem OwnPs.append {lo hi1 lo2 : Nat} {w w' : World} {o v v' : Value} {ps qs : List Pr} (h1 : OwnPs lo hi1 w o ps) (h2 : OwnPs lo2 w.heap.size w v qs) (hh : hi1 ≤ lo2) (hl : lo ≤ lo2) (hi1w : hi1 ≤ w.heap.size)
    (ho : w'.ownsRow lo 24 1 v' (ps.length + qs.length) (ps.map (·.1) ++ qs.map (·.1))) (hg : w.grownBy w' o.ownBlock) : OwnPs lo w'.heap.size w' v' (ps ++ qs) := by
  refine ⟨by rw [List.length_append, List.map_append]; exact ho, fun k hk => (ho.lt k hk).2, fun p hp => ?_, ?_⟩
  · rcases List.mem_append.1 hp with h | h
    · exact ((h1.ints p h).keptH h1.own hg).wide (Nat.le_refl _) (Nat.le_trans hi1w hg.size)
    · exact ((h2.ints p h).keptH h1.own hg).wide hl hg.size
  · rw [List.pairwise_append]
    exact ⟨h1.ne, h2.ne, fun p hp q hq => (h1.ints p hp).neOld (h2.ints q hq) hh⟩

set_option maxRecDepth 20000 in
set_option maxHeartbeats 2000000 in
theorem huAll_any (a b : Int) (hg : givenB a b = true) (m : Nat) : m ≤ 4 → ∀ (v : Value) (pre : List Int) (most : Nat) (w : World), most ≤ 40 → pre.length + m ≤ 4 → Ints w v pre →
    Calls Try.prog 65 #[v, .int .i64 m, .int .i64 a, .int .i64 b, .int .i64 most] w fun e w' => ∃ v' ps, e = .returned v' ∧ OwnPs w.heap.size w'.heap.size w' v' ps ∧ ps.map (·.2) = allF a b m pre most ∧ Later w w' := by
  induction m with
  | zero =>
    intro _ v pre most w hm hp h
    obtain ⟨p, cap, rfl, hl, _⟩ := id h
    have H := hid h
    have HG := hid hg
    cases hs : solB pre a b
    · have HS := hid hs
      have HA := hid (show allF a b 0 pre most = [] by unfold allF visP; simp [hs])
      clear h hg hs
      go_enter Try.func65, Try.ntmps65
      go_wp2_with fail
      refine (huGood_as _ pre a b _ _ HG.out HS.out H.out).mono ?_
      rintro e w' ⟨rfl, hL⟩
      have HL := hid hL
      clear hL
      go_wp2_with fail
      go_ret
      exact ⟨_, [], rfl, OwnPs.none_ _ _ _, HA.out.symm, HL.out⟩
    · have HS := hid hs
      have HA := hid (show allF a b 0 pre most = [pre] by unfold allF visP; simp [hs])
      have hpl : pre.length ≤ 1000 := by omega
      clear h hg hs
      go_enter Try.func65, Try.ntmps65
      go_wp2_with fail
      refine (huGood_as _ pre a b _ _ HG.out HS.out H.out).mono ?_
      rintro e w' ⟨rfl, hL⟩
      have HL := hid hL
      clear hL
      go_wp2_with fail
      refine (l1OwnV_any _ pre _ hpl (H.out.later HL.out)).mono ?_
      rintro e w2 ⟨v2, rfl, ho, hL2⟩
      obtain ⟨a2, c2, rfl, _⟩ := ho.shape
      have HR := hid (OwnRows.oneH hL2.size ho)
      have HL2 := hid ((HL.out.trans hL2).trans (Later.alloc w2 (.cells #[.slice a2 pre.length c2] 24)))
      have HLW := hid HL.out.size
      clear ho hL2
      go_wp2_with fail
      go_ret
      obtain ⟨ps, hps, hpm⟩ := HR.out.ps
      exact ⟨_, ps, rfl, (hps.wide HLW.out (by simp)), by rw [hpm, HA.out], HL2.out⟩
  | succ m ih =>
    intro hm4 v pre most w hm hp h
    obtain ⟨p, cap, rfl, hl, _⟩ := id h
    obtain ⟨ii, hii, ii0, ii1, ii2⟩ := info_parts Try.infoInt
    obtain ⟨i0, hi, hz0, hz1, hz2⟩ := info_parts Try.infoInts
    have H := hid h
    have HG := hid hg
    have HIH := hid (fun v pre most w h1 h2 h3 => ih (by omega) v pre most w h1 h2 h3)
    have HAS := hid (allF_succ a b m pre most)
    have HKS := hid (allK_succ a b m pre)
    have HKL := hid (fun k hk => Nat.le_trans (allK_len a b m pre k hk) (pow40 (m + 1) hm4))
    have hm0 : ((m : Int) + 1 == 0) = false := beq_eq_false_iff_ne.2 (by omega)
    have hmI : (m : Int) ≤ 4 := by omega
    have hpl : pre.length ≤ 4 := by omega
    rw [show ((m + 1 : Nat) : Int) = (m : Int) + 1 by omega]
    clear h hg ih
    go_enter Try.func65, Try.ntmps65
    go_wp2_with fail
    go_loopw [11, 12] (fun o x wr => ∃ (k : Nat) (ps : List Pr), k ≤ most ∧ x = .int .i64 ((k : Int) + 1) ∧ OwnPs w.heap.size wr.heap.size wr o ps ∧ ps.map (·.2) = allK a b m pre k ∧ Later w wr) (fun _ x _ => most + 1 - (intOf x).toNat)
    case atStart => exact ⟨0, [], Nat.zero_le _, by simp, OwnPs.none_ _ _ _, rfl, Later.refl _⟩
    case round =>
      obtain ⟨k, ps, hk, rfl, hO, hU, hL⟩ := hrel
      have HO := hid hO
      have HU := hid hU
      have HL := hid hL
      by_cases hlt : k < most
      · have hkm : (k : Int) + 1 ≤ (most : Int) := by omega
        have hpsl : ps.length ≤ 2560000 := by have := HKL.out k (by omega); rw [← hU, List.length_map] at this; exact this
        clear hO hU hL
        go_wp2_with fail
        refine (l1OwnV_any _ pre _ (by omega) (H.out.later HL.out)).mono ?_
        rintro e w2 ⟨v2, rfl, ho2, hL2⟩
        have HOA := hid (ho2.1.alloc (.cells #[Value.int .i64 ((k : Int) + 1)] 3))
        have HLT2 := hid ho2.1.lt
        have HLA := hid (hL2.trans (Later.alloc w2 (.cells #[Value.int .i64 ((k : Int) + 1)] 3)))
        clear hL2 ho2
        go_wp2_with (at_builtin; refine wpList_append_own_at _ (by rfl) _ _ _ (by rfl) wr.heap.size 3 ii (.int .i64 0) 1 8 Try.underlying24 hii ii0 ii1 ii2 rfl (by omega) v2 pre.length (pre.map (Value.int .i64)) (by rfl) (by exact HOA.out) ⟨w2.heap.size, 0, none⟩ 1 1 [.int .i64 ((k : Int) + 1)] (by rfl) (by simp) (cell_one_new _ _ _) (fun u hu => by first | (obtain ⟨y, _, rfl⟩ := List.mem_map.1 hu; rfl) | (simp at hu; subst hu; rfl)) (by unfold maxLen; omega) (by omega) HLA.out.size ?_)
        intro v4 w4 hown4 hgrow4 _ _
        have HO4 := hid (OwnInts.ofH (zs := pre ++ [((k + 1 : Nat) : Int)]) hown4 (by simp))
        have HL4 := hid (show Later wr w4 from HLA.out.grown hgrow4 HLA.out.size (fun b hb => (HLT2.out b hb).1))
        have HLw4 := hid (HL.out.trans HL4.out)
        have HAF := hid (HKS.out k)
        have HC := hid (HIH.out v4 (pre ++ [((k + 1 : Nat) : Int)]) (k + 1) w4 (by omega) (by simp; omega) HO4.out.ints)
        rw [show ((k + 1 : Nat) : Int) = (k : Int) + 1 by omega] at HC HAF
        clear hown4 hgrow4 HOA HLA HLT2
        go_wp2_with fail
        refine HC.out.mono ?_
        rintro e w5 ⟨v5, qs, rfl, ho5, hm5, hL5⟩
        have HO5 := hid ho5
        have HM5 := hid hm5
        have HOo := hid (HO.out.later (HL4.out.trans hL5))
        have HL5 := hid (HLw4.out.trans hL5)
        have HW4 := hid HL4.out.size
        have HW5 := hid hL5.size
        have HWr := hid HL.out.size
        have hql : qs.length ≤ 2560000 := by
          have h1 := HKL.out (k + 1) (by omega)
          rw [HAF.out, List.length_append, ← hm5, List.length_map] at h1
          omega
        have HNU := hid (show ps.map (·.2) ++ qs.map (·.2) = allK a b m pre (k + 1) by rw [HAF.out, HU.out, HM5.out])
        rcases ho5.own.2 with ⟨rfl, h0⟩ | ⟨g5, c5, cur5, rfl, _, _, hn5, _⟩
        · have hqs : qs = [] := List.eq_nil_of_length_eq_zero h0
          subst hqs
          clear ho5 hm5 hL5 hql
          go_wp2_with (at_builtin; refine wpList_append_own_none (by rfl) _ _ _ (by rfl) w.heap.size 24 i0 1 Try.underlying27 hi u11 _ _ (by rfl) HOo.out.own (by rfl) ?_)
          go_roundw
          case rel => exact ⟨k + 1, ps, hlt, by go_num, HOo.out.wide (Nat.le_refl _) (Nat.le_trans HW4.out HW5.out), by simpa using HNU.out, HL5.out⟩
          case measure => simp [intOf]; omega
        · have hhd := (ownPs_head HO5.out).2.2
          have HNX := hid (show ∀ j u, (qs.map (·.1))[j]? = some u → w5.cell? ((⟨g5, 0, none⟩ : Addr).add j) = some u from fun j u hj => by
            have hj2 : j < qs.length := by
              rcases Nat.lt_or_ge j qs.length with h | h
              · exact h
              · rw [List.getElem?_eq_none (by simpa using h)] at hj; cases hj
            rw [addr_add0, hhd j hj2, ← hj]
            simp [hj2])
          have HXO := hid (show ∀ u ∈ qs.map (·.1), u.oneCell' = true by intro u hu; obtain ⟨p, hp, rfl⟩ := List.mem_map.1 hu; obtain ⟨_, _, e, _⟩ := (HO5.out.ints p hp).shape; rw [e]; rfl)
          clear ho5 hm5 hL5 hhd
          go_wp2_with (at_builtin; refine wpList_append_own_at _ (by rfl) _ _ _ (by rfl) w.heap.size 24 i0 (.slice none 0 0) 1 24 Try.underlying27 hi hz0 hz1 hz2 rfl (by omega) u11 ps.length (ps.map (·.1)) (by rfl) (by exact HOo.out.own) ⟨g5, 0, none⟩ qs.length c5 (qs.map (·.1)) (by rfl) (by simp) HNX.out (fun u hu => HXO.out u hu) (by unfold maxLen; omega) (by omega) HL5.out.size ?_)
          intro v6 w6 hown6 hgrow6 _ _
          have HO6 := hid (OwnPs.append HOo.out HO5.out HW4.out (Nat.le_trans HWr.out HW4.out) (Nat.le_trans HW4.out HW5.out) hown6 hgrow6)
          have HL6 := hid (show Later w w6 from HL5.out.grown hgrow6 HL5.out.size (fun b hb => (HOo.out.own.lt b hb).1))
          clear hown6 hgrow6
          go_wp2_with fail
          go_roundw
          case rel => exact ⟨k + 1, ps ++ qs, hlt, by go_num, HO6.out, by rw [List.map_append]; exact HNU.out, HL6.out⟩
          case measure => simp [intOf]; omega
      · obtain rfl : k = most := by omega
        clear hO hU hL
        go_wp2_with fail
        go_ret
        exact ⟨_, ps, rfl, HO.out, by rw [HU.out, HAS.out], HL.out⟩
end Go.Proofs.Ytoaopmafokoaoaa
