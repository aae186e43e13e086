/- HuFs, HuFt, HuFx: in one text. -/
import Derived.Test.YtoaopmafokoaoaaHuFa
namespace Go.Proofs.Ytoaopmafokoaoaa
open Go.RowKit


def taskB (parts a b most : Int) : Bool := within 3 4 parts && givenB a b && within 1 40 most
def allS (parts a b most : Int) : List (List Int) := allF a b parts.toNat [] most.toNat
def solsAns (parts a b most : Int) : Option (List (List Int)) := if taskB parts a b most = true ∧ (allS parts a b most).length ≤ 500 then some (allS parts a b most) else none
def fundsAns (parts a b most : Int) : Option (List (List Int)) := if taskB parts a b most = true ∧ (allS parts a b most).length ≤ 500 then some ((allS parts a b most).filter (lastB a)) else none
theorem within34 {x : Int} : within 3 4 x = true ↔ x = 3 ∨ x = 4 := by simp only [within, Bool.and_eq_true, decide_eq_true_eq]; omega
theorem within40 {x : Int} : within 1 40 x = true ↔ 1 ≤ x ∧ x ≤ 40 := by simp only [within, Bool.and_eq_true, decide_eq_true_eq]
theorem taskB_iff {parts a b most : Int} : taskB parts a b most = true ↔ (parts = 3 ∨ parts = 4) ∧ givenB a b = true ∧ 1 ≤ most ∧ most ≤ 40 := by
  unfold taskB
  rw [Bool.and_eq_true, Bool.and_eq_true, within34, within40, and_assoc]
set_option maxRecDepth 20000 in
set_option maxHeartbeats 1000000 in
theorem huTask_any (parts a b most : Int) (w : World) : Calls Try.prog 64 #[.int .i64 parts, .int .i64 a, .int .i64 b, .int .i64 most] w fun e w' => e = .returned (.bool (taskB parts a b most)) ∧ w = w' := by
  obtain ⟨T, hT⟩ : ∃ T, taskB parts a b most = T := ⟨_, rfl⟩
  have HT := hid (show T = (within 3 4 parts && givenB a b && within 1 40 most) from hT.symm)
  rw [hT]
  clear hT
  cases h1 : within 3 4 parts
  · have H1 := hid h1
    rw [h1] at HT
    clear h1
    go_enter Try.func64, Try.ntmps64
    go_wp2_with fail
    refine (l1In_as _ _ _ _ _ H1.out).mono ?_
    rintro e w' ⟨rfl, rfl⟩
    go_wp2_with fail
    go_ret
    exact ⟨ret_bool HT.out.symm, rfl⟩
  · have H1 := hid h1
    rw [h1] at HT
    clear h1
    cases h2 : givenB a b
    · have H2 := hid h2
      rw [h2] at HT
      clear h2
      go_enter Try.func64, Try.ntmps64
      go_wp2_with fail
      refine (l1In_as _ _ _ _ _ H1.out).mono ?_
      rintro e w' ⟨rfl, rfl⟩
      go_wp2_with fail
      refine (huGiven_as a b _ _ H2.out).mono ?_
      rintro e w' ⟨rfl, rfl⟩
      go_wp2_with fail
      go_ret
      exact ⟨ret_bool HT.out.symm, rfl⟩
    · have H2 := hid h2
      rw [h2] at HT
      obtain ⟨T3, h3⟩ : ∃ T3, within 1 40 most = T3 := ⟨_, rfl⟩
      have H3 := hid h3
      rw [h3] at HT
      clear h2 h3
      go_enter Try.func64, Try.ntmps64
      go_wp2_with fail
      refine (l1In_as _ _ _ _ _ H1.out).mono ?_
      rintro e w' ⟨rfl, rfl⟩
      go_wp2_with fail
      refine (huGiven_as a b _ _ H2.out).mono ?_
      rintro e w' ⟨rfl, rfl⟩
      go_wp2_with fail
      refine (l1In_as _ _ _ _ _ H3.out).mono ?_
      rintro e w' ⟨rfl, rfl⟩
      go_wp2_with fail
      go_ret
      exact ⟨ret_bool (by rw [HT.out]; rfl), rfl⟩
theorem huTask_as {parts a b most : Int} {T : Bool} (w : World) (h : taskB parts a b most = T) : Calls Try.prog 64 #[.int .i64 parts, .int .i64 a, .int .i64 b, .int .i64 most] w fun e w' => e = .returned (.bool T) ∧ w = w' := by
  subst h; exact huTask_any parts a b most w
theorem ints_nil (w : World) (c : Nat) : Ints w (.slice none 0 c) [] := ⟨none, c, rfl, by simp, fun i hi => absurd hi (Nat.not_lt_zero i)⟩
/-- All solutions, made anew. -/
theorem huAllS_any (parts a b most : Int) (w : World) (h : taskB parts a b most = true) :
    Calls Try.prog 65 #[.slice none 0 0, .int .i64 parts, .int .i64 a, .int .i64 b, .int .i64 most] w fun e w' => ∃ v' ps, e = .returned v' ∧ OwnPs w.heap.size w'.heap.size w' v' ps ∧ ps.map (·.2) = allS parts a b most ∧ Later w w' := by
  obtain ⟨hp, hg, h1, h2⟩ := taskB_iff.1 h
  have := huAll_any a b hg parts.toNat (by omega) (.slice none 0 0) [] most.toNat w (by omega) (by simp; omega) (ints_nil w 0)
  rw [show ((parts.toNat : Nat) : Int) = parts by omega, show ((most.toNat : Nat) : Int) = most by omega] at this
  exact this
theorem allS_len {parts a b most : Int} (h : taskB parts a b most = true) : (allS parts a b most).length ≤ 2560000 := by
  obtain ⟨hp, hg, h1, h2⟩ := taskB_iff.1 h
  exact Nat.le_trans (Nat.le_trans (List.length_filter_le _ _) (visP_len _ _ _ (by omega))) (pow40 _ (by omega))

set_option maxRecDepth 20000 in
set_option maxHeartbeats 1000000 in
theorem specSolutionsUpTo_any (parts a b most : Int) (w : World) : Calls Try.prog 18 #[.int .i64 parts, .int .i64 a, .int .i64 b, .int .i64 most] w fun e w' => RowsAns w (solsAns parts a b most) e w' := by
  cases h : taskB parts a b most
  · have H := hid h
    have HA := hid (show solsAns parts a b most = none by unfold solsAns; rw [if_neg (by rw [h]; simp)])
    clear h
    go_enter Try.func18, Try.ntmps18
    go_wp2_with fail
    refine (huTask_as _ H.out).mono ?_
    rintro e w' ⟨rfl, rfl⟩
    go_wp2_with fail
    go_ret2
    rw [HA.out]
    exact ⟨_, rfl, OwnRows.noneH _ _ _, Later.refl _⟩
  · have H := hid h
    have HAL := hid (show ∀ n, (allS parts a b most).length = n → solsAns parts a b most = if n ≤ 500 then some (allS parts a b most) else none from fun n hn => by
      unfold solsAns
      rw [hn]
      by_cases h5 : n ≤ 500
      · rw [if_pos ⟨h, h5⟩, if_pos h5]
      · rw [if_neg (fun hh => h5 hh.2), if_neg h5])
    have hal := allS_len h
    have HC := hid (fun w => huAllS_any parts a b most w h)
    obtain ⟨R, hR⟩ : ∃ R, allS parts a b most = R := ⟨_, rfl⟩
    rw [hR] at HAL HC hal
    clear h hR
    go_enter Try.func18, Try.ntmps18
    go_wp2_with fail
    refine (huTask_as _ H.out).mono ?_
    rintro e w' ⟨rfl, rfl⟩
    go_wp2_with fail
    refine (HC.out w).mono ?_
    rintro e w2 ⟨v2, ps, rfl, ho, hm, hL⟩
    have hor := ho.rows
    rw [hm] at hor
    obtain ⟨a2, c2, rfl, _⟩ := hor.shape
    have HO := hid hor
    have HL := hid hL
    clear ho hor hL hm
    by_cases h5 : R.length ≤ 500
    · have HA := hid (show solsAns parts a b most = some R by rw [HAL.out _ rfl, if_pos h5])
      have hd : decide ((500 : Int) < (R.length : Int)) = false := decide_eq_false (by omega)
      clear h5
      go_wp2_with fail
      go_ret2
      rw [HA.out]
      exact ⟨_, rfl, HO.out, HL.out⟩
    · have HA := hid (show solsAns parts a b most = none by rw [HAL.out _ rfl, if_neg h5])
      have hd : decide ((500 : Int) < (R.length : Int)) = true := decide_eq_true (by omega)
      clear h5
      go_wp2_with fail
      go_ret2
      rw [HA.out]
      exact ⟨_, rfl, OwnRows.noneH _ _ _, HL.out⟩


theorem fundsAns_of (parts a b most : Int) : fundsAns parts a b most = (solsAns parts a b most).map fun L => L.filter (lastB a) := by
  unfold fundsAns solsAns; split <;> rfl
theorem sols_sol {parts a b most : Int} {R : List (List Int)} (h : solsAns parts a b most = some R) : R.length ≤ 500 ∧ ∀ r ∈ R, Sol r a b := by
  unfold solsAns at h
  split at h
  · rename_i hh
    simp only [Option.some.injEq] at h
    subst h
    refine ⟨hh.2, fun r hr => ?_⟩
    unfold allS allF at hr
    exact Sol.of (taskB_iff.1 hh.1).2.1 (List.mem_filter.1 hr).2
  · cases h
theorem filter_takeL {p : List Int → Bool} {R : List (List Int)} {k : Nat} (h : k < R.length) : (R.take (k + 1)).filter p = (R.take k).filter p ++ (if p (R.getD k []) = true then [R.getD k []] else []) := by
  rw [List.take_add_one, List.getElem?_eq_getElem h, List.filter_append, List.getD_eq_getElem?_getD, List.getElem?_eq_getElem h]
  congr 1
  simp only [Option.getD_some, Option.toList_some]
  cases hp : p R[k] <;> simp [hp]
theorem ownsRow_up {w : World} {lo lo' : Nat} {e : TypeId} {v : Value} {n : Nat} {xs : List Value} (h : w.ownsRow lo e 1 v n xs) (hb : ∀ b, v.ownBlock = some b → lo' ≤ b) : w.ownsRow lo' e 1 v n xs := by
  refine ⟨h.1, ?_⟩
  rcases h.2 with hn | ⟨g, cap, cur, rfl, _, rest⟩
  · exact .inl hn
  · exact .inr ⟨g, cap, cur, rfl, hb g rfl, rest⟩

set_option maxRecDepth 20000 in
set_option maxHeartbeats 2000000 in
theorem specFundamentalsUpTo_any (parts a b most : Int) (w : World) : Calls Try.prog 20 #[.int .i64 parts, .int .i64 a, .int .i64 b, .int .i64 most] w fun e w' => RowsAns w (fundsAns parts a b most) e w' := by
  have HC := hid (specSolutionsUpTo_any parts a b most)
  have HF := hid (fundsAns_of parts a b most)
  have hss := fun R h => sols_sol (parts := parts) (a := a) (b := b) (most := most) (R := R) h
  obtain ⟨o, ho⟩ : ∃ o, solsAns parts a b most = o := ⟨_, rfl⟩
  rw [ho] at HC HF
  simp only [ho] at hss
  clear ho
  cases o with
  | none =>
    have HA := hid (show fundsAns parts a b most = none from HF.out)
    clear hss
    go_enter Try.func20, Try.ntmps20
    go_wp2_with fail
    refine (HC.out w).mono ?_
    rintro e w1 ⟨v1, rfl, ho1, hL1⟩
    have HL1 := hid hL1
    clear hL1 ho1
    go_wp2_with fail
    go_ret2
    rw [HA.out]
    exact ⟨_, rfl, OwnRows.noneH _ _ _, HL1.out⟩
  | some R =>
    obtain ⟨hRl, hRs⟩ := hss R rfl
    have HRS := hid hRs
    have HA := hid (show fundsAns parts a b most = some (R.filter (lastB a)) from HF.out)
    obtain ⟨i0, hi, hz0, hz1, hz2⟩ := info_parts Try.infoInts
    clear hss hRs
    go_enter Try.func20, Try.ntmps20
    go_wp2_with fail
    refine (HC.out w).mono ?_
    rintro e w1 ⟨v1, rfl, ho1, hL1⟩
    have ho1' : OwnRows w.heap.size w1.heap.size w1 v1 R := ho1
    obtain ⟨ps, hps, hpm⟩ := ho1'.ps
    have HPM := hid hpm
    have HPS := hid hps
    have HL1 := hid hL1
    have hpl : ps.length = R.length := by rw [← hpm, List.length_map]
    have HPL := hid hpl
    obtain ⟨a1, c1, e1, _⟩ := ho1'.shape
    subst e1
    have HRO := hid (show ∀ k, k < ps.length → ∃ g ad c, a1 = some ⟨g, 0, none⟩ ∧ w1.cell? ⟨g, k, none⟩ = some (.slice ad (R.getD k []).length c) ∧ OwnInts w.heap.size w1.heap.size w1 (.slice ad (R.getD k []).length c) (R.getD k []) ∧ (ps.getD k (undef, [])) = (.slice ad (R.getD k []).length c, R.getD k []) ∧ R.getD k [] ∈ R by
      intro k hk
      rcases hps.own.2 with ⟨_, h0⟩ | ⟨g, cg, cur, e, _⟩
      · omega
      · simp only [Value.slice.injEq] at e
        obtain ⟨rfl, _, _⟩ := e
        have h1 := (ownPs_head hps).2.2 k hk
        have h2 := hps.ints ps[k] (List.getElem_mem hk)
        have h3 : ps.getD k (undef, []) = ps[k] := by simp [hk]
        have h4 : R.getD k [] = ps[k].2 := by rw [← hpm]; simp [hk]
        obtain ⟨ad, c, e5, _⟩ := h2.shape
        refine ⟨g, ad, c, rfl, ?_, ?_, ?_, ?_⟩
        · rw [h4, ← e5, ← h3]; exact h1
        · rw [h4, ← e5]; exact h2
        · rw [h3, h4, ← e5]
        · rw [h4, ← hpm]; exact List.mem_map.2 ⟨ps[k], List.getElem_mem hk, rfl⟩)
    clear ho1 ho1' hps hpm hL1
    rw [← hpl] at hRl
    have HRL := hid (show (R.length : Int) = (ps.length : Int) by omega)
    rw [show R.length = ps.length from hpl.symm]
    clear hpl
    go_wp2_with fail
    go_loopw [12, 27] (fun o i wr => ∃ (k : Nat) (qs : List Pr), k ≤ ps.length ∧ i = .int .i64 k ∧ OwnPs w.heap.size wr.heap.size wr o qs ∧ qs.map (·.2) = (R.take k).filter (lastB a) ∧ qs.Sublist (ps.take k) ∧ Later w1 wr ∧ (∀ b, o.ownBlock = some b → w1.heap.size ≤ b)) (fun _ i _ => ps.length - (intOf i).toNat)
    case atStart => exact ⟨0, [], Nat.zero_le _, rfl, OwnPs.none_ _ _ _, by simp, List.nil_sublist _, Later.refl _, fun b hb => by simp [Value.ownBlock] at hb⟩
    case round =>
      obtain ⟨k, qs, hk, rfl, hO, hU, hS, hL, hbk⟩ := hrel
      have HO := hid hO
      have HU := hid hU
      have HSL := hid hS
      have HL := hid hL
      have HBK := hid hbk
      by_cases hlt : k < ps.length
      · obtain ⟨g, ad, c, rfl, hcell, hown, hpe, hmem⟩ := HRO.out k hlt
        have hkI : (k : Int) < (ps.length : Int) := by omega
        have HFT := hid (filter_takeL (p := lastB a) (R := R) (k := k) (by rw [← HPL.out]; exact hlt))
        have HRk := hid (HRS.out _ hmem)
        replace hcell := hL.cell hcell
        have HOWk := hid (hown.later hL)
        have HPE := hid hpe
        have HTK := hid (show ps.take (k + 1) = ps.take k ++ [ps.getD k (undef, [])] by rw [List.take_add_one, List.getElem?_eq_getElem hlt, List.getD_eq_getElem?_getD, List.getElem?_eq_getElem hlt]; rfl)
        rw [hpe] at HTK
        obtain ⟨r, hr⟩ : ∃ r, R.getD k [] = r := ⟨_, rfl⟩
        rw [hr] at hcell HOWk HFT HRk HTK
        have hql : qs.length ≤ 500 := by
          have := hS.length_le
          rw [List.length_take] at this
          omega
        clear hO hU hS hL hbk hown hpe hmem hr HPE
        go_wp2_with fail
        refine (huLast_any _ r a b _ HRk.out HOWk.out.intsC).mono ?_
        rintro e w2 ⟨rfl, hL2⟩
        have HO2 := hid ((HO.out.later hL2).wide (Nat.le_refl _) hL2.size)
        have HOWk2 := hid (HOWk.out.later hL2)
        have HL2 := hid (HL.out.trans hL2)
        clear hL2 hcell
        cases hlb : lastB a r
        · have HFT2 := hid (show (R.take (k + 1)).filter (lastB a) = (R.take k).filter (lastB a) by rw [HFT.out, hlb]; simp)
          clear hlb
          go_wp2_with fail
          go_roundw
          case rel => exact ⟨k + 1, qs, hlt, by go_num, HO2.out, by rw [HFT2.out]; exact HU.out, by rw [HTK.out]; exact HSL.out.trans (List.sublist_append_left _ _), HL2.out, HBK.out⟩
          case measure => simp [intOf]; omega
        · have HFT2 := hid (show (R.take (k + 1)).filter (lastB a) = (R.take k).filter (lastB a) ++ [r] by rw [HFT.out, hlb]; simp)
          have HUP := hid (ownsRow_up HO2.out.own HBK.out)
          have HOA := hid ((ownsRow_up HO2.out.own HBK.out).alloc (.cells #[Value.slice ad r.length c] 24))
          have hA := Later.alloc w2 (.cells #[Value.slice ad r.length c] 24)
          have HLA := hid (HL2.out.trans hA)
          have HO2a := hid (HO2.out.later hA)
          have HOWa := hid (HOWk2.out.later hA)
          have hws := HL2.out.size
          have HW1 := hid HL1.out.size
          clear hlb hA
          go_wp2_with (at_builtin; refine wpList_append_lies _ (by rfl) _ _ _ (by rfl) w1.heap.size 24 i0 (.slice none 0 0) 1 24 Try.underlying27 hi hz0 hz1 hz2 rfl (by omega) _ qs.length (qs.map (·.1)) (by rfl) (by exact HOA.out) ⟨w2.heap.size, 0, none⟩ 1 1 [.slice ad r.length c] (by rfl) (by rfl) (World.news_of_block (cs := #[.slice ad r.length c]) (t := 24) (fr := (0, 0)) (heap_alloc_new w2 _)) (by simp [Value.oneCell']) (by omega) (by unfold maxLen; omega) (by omega) (by simp; omega) (w2.heap.size + 1) (by simp) ?_)
          intro g2 cap2 w3 hown3 hgrow3 _ _
          have HO3 := hid (show OwnPs w.heap.size w3.heap.size w3 (.slice (some ⟨g2, 0, none⟩) (qs.length + 1) cap2) (qs ++ [(.slice ad r.length c, r)]) from by
            refine ⟨?_, fun b hb => (hown3.lt b hb).2, fun p hp => ?_, ?_⟩
            · rw [List.length_append, List.map_append]; exact ownsRow_base hown3 HW1.out
            · rcases List.mem_append.1 hp with h | h
              · exact ((HO2a.out.ints p h).keptH HO2a.out.own hgrow3).wide (Nat.le_refl _) (by have := hgrow3.size; simp at this; omega)
              · rw [List.mem_singleton] at h
                subst h
                exact (HOWa.out.keptH HO2a.out.own hgrow3).wide (Nat.le_refl _) (by have := hgrow3.size; simp at this; omega)
            · refine List.Pairwise.sublist (HSL.out.append (List.Sublist.refl [_])) ?_
              rw [← HTK.out]
              exact HPS.out.ne.sublist (List.take_sublist _ _))
          have HL3 := hid (show Later w1 w3 from HLA.out.grown hgrow3 (by simp; omega) (fun b hb => HBK.out b hb))
          have HB3 := hid (fun b (hb : (Value.slice (some ⟨g2, 0, none⟩) (qs.length + 1) cap2).ownBlock = some b) => (hown3.lt b hb).1)
          clear hown3 hgrow3
          go_wp2_with fail
          go_roundw
          case rel => exact ⟨k + 1, qs ++ [(.slice ad r.length c, r)], hlt, by go_num, HO3.out, by rw [HFT2.out, List.map_append, HU.out]; rfl, by rw [HTK.out]; exact HSL.out.append (List.Sublist.refl [_]), HL3.out, HB3.out⟩
          case measure => simp [intOf]; omega
      · have hke : k = ps.length := by omega
        have HFE := hid (show qs.map (·.2) = R.filter (lastB a) by rw [HU.out, hke, HPL.out, List.take_length])
        have hor := HO.out.rows
        rw [HFE.out] at hor
        have HOR := hid hor
        have HLf := hid (HL1.out.trans HL.out)
        obtain ⟨a9, c9, e9, _⟩ := hor.shape
        subst e9
        clear hO hU hS hL hbk hor hke
        go_wp2_with fail
        go_ret2
        rw [HA.out]
        exact ⟨_, rfl, HOR.out, HLf.out⟩


def hasF (parts b most : Int) (k : Nat) : Bool := decide (0 < (allS parts ((k : Int) + 1) b most).length)
def facK (parts b most : Int) (k : Nat) : List Int := ((List.range k).filter (hasF parts b most)).map fun i : Nat => (i : Int) + 1
theorem facK_succ (parts b most : Int) (k : Nat) : facK parts b most (k + 1) = facK parts b most k ++ (if hasF parts b most k = true then [(k : Int) + 1] else []) := by
  unfold facK
  rw [List.range_succ, List.filter_append, List.map_append]
  congr 1
  simp only [List.filter_cons, List.filter_nil]
  split <;> rfl
theorem facK_len (parts b most : Int) (k : Nat) : (facK parts b most k).length ≤ k := by
  unfold facK
  rw [List.length_map]
  exact Nat.le_trans (List.length_filter_le _ _) (by simp)
def facsAns (parts b most : Int) : Option (List Int) := if taskB parts 1 b most = true then some (facK parts b most 20) else none
theorem taskB_all {parts b most : Int} (h : taskB parts 1 b most = true) (k : Nat) (hk : k < 20) : taskB parts ((k : Int) + 1) b most = true := by
  obtain ⟨h1, h2, h3⟩ := taskB_iff.1 h
  have hb := (givenB_iff.1 h2).2
  exact taskB_iff.2 ⟨h1, givenB_iff.2 ⟨by omega, hb⟩, h3⟩

set_option maxRecDepth 20000 in
set_option maxHeartbeats 2000000 in
theorem specFactorsFor_any (parts b most : Int) (w : World) : Calls Try.prog 23 #[.int .i64 parts, .int .i64 b, .int .i64 most] w fun e w' => IntsAns w (facsAns parts b most) e w' := by
  cases h : taskB parts 1 b most
  · have H := hid h
    have HA := hid (show facsAns parts b most = none by unfold facsAns; rw [if_neg (by rw [h]; simp)])
    clear h
    go_enter Try.func23, Try.ntmps23
    go_wp2_with fail
    refine (huTask_as _ H.out).mono ?_
    rintro e w' ⟨rfl, rfl⟩
    go_wp2_with fail
    go_ret2
    rw [HA.out]
    exact ⟨_, rfl, OwnInts.nothing0 _ _ _, Later.refl _⟩
  · have H := hid h
    have HA := hid (show facsAns parts b most = some (facK parts b most 20) by unfold facsAns; rw [if_pos h])
    have HK := hid (facK_succ parts b most)
    have HKL := hid (facK_len parts b most)
    have HH := hid (fun k => show hasF parts b most k = decide (0 < (allS parts ((k : Int) + 1) b most).length) from rfl)
    have HC := hid (fun (k : Nat) hk w => huAllS_any parts ((k : Int) + 1) b most w (taskB_all h k hk))
    obtain ⟨ii, hii, ii0, ii1, ii2⟩ := info_parts Try.infoInt
    clear h
    go_enter Try.func23, Try.ntmps23
    go_wp2_with fail
    refine (huTask_as _ H.out).mono ?_
    rintro e w' ⟨rfl, rfl⟩
    go_wp2_with fail
    go_loopw [8, 9] (fun o x wr => ∃ k : Nat, k ≤ 20 ∧ x = .int .i64 ((k : Int) + 1) ∧ OwnInts w.heap.size wr.heap.size wr o (facK parts b most k) ∧ Later w wr) (fun _ x _ => 22 - (intOf x).toNat)
    case atStart => exact ⟨0, by omega, by simp, OwnInts.nothing0 _ _ _, Later.refl _⟩
    case round =>
      obtain ⟨k, hk, rfl, hO, hL⟩ := hrel
      have HO := hid hO
      have HL := hid hL
      by_cases hlt : k < 20
      · have hkI : (k : Int) + 1 ≤ 20 := by omega
        have HCk := hid (HC.out k hlt wr)
        have HHk := hid (HH.out k)
        have HKk := hid (HK.out k)
        have hfl := HKL.out k
        obtain ⟨R, hR⟩ : ∃ R, allS parts ((k : Int) + 1) b most = R := ⟨_, rfl⟩
        rw [hR] at HCk HHk
        obtain ⟨F, hF⟩ : ∃ F, facK parts b most k = F := ⟨_, rfl⟩
        rw [hF] at HO HKk hfl
        clear hO hL hR hF
        go_wp2_with fail
        refine HCk.out.mono ?_
        rintro e w2 ⟨v2, ps, rfl, ho2, hm2, hL2⟩
        have hpl : ps.length = R.length := by rw [← hm2, List.length_map]
        have hsh := ho2.rows.shape
        rw [List.length_map, hpl] at hsh
        obtain ⟨a2, c2, rfl, _⟩ := hsh
        have HO2 := hid (HO.out.later hL2)
        have HL2 := hid (HL.out.trans hL2)
        have HS2 := hid hL2.size
        clear ho2 hm2 hpl hL2
        obtain ⟨n, hn⟩ : ∃ n, R.length = n := ⟨_, rfl⟩
        rw [hn] at HHk ⊢
        clear hn
        by_cases h0 : 0 < n
        · obtain ⟨n', rfl⟩ : ∃ n', n = n' + 1 := ⟨n - 1, by omega⟩
          have hd : decide ((0 : Int) < (n' : Int) + 1) = true := decide_eq_true (by omega)
          have hd2 : (0 : Int) < (n' : Int) + 1 := by omega
          have HKn := hid (show facK parts b most (k + 1) = F ++ [(k : Int) + 1] by rw [HKk.out, HHk.out, decide_eq_true h0]; simp)
          have HOA := hid (HO2.out.1.alloc (.cells #[Value.int .i64 ((k : Int) + 1)] 3))
          have HOB := hid (fun b (hb : _ = some b) => (HO2.out.1.lt b hb).1)
          have HLA := hid (HL2.out.trans (Later.alloc w2 (.cells #[Value.int .i64 ((k : Int) + 1)] 3)))
          have hws := HL2.out.size
          clear h0
          go_wp2_with (at_builtin; refine wpList_append_lies _ (by rfl) _ _ _ (by rfl) w.heap.size 3 ii (.int .i64 0) 1 8 Try.underlying24 hii ii0 ii1 ii2 rfl (by omega) _ F.length (F.map (Value.int .i64)) (by rfl) (by exact HOA.out) ⟨w2.heap.size, 0, none⟩ 1 1 [.int .i64 ((k : Int) + 1)] (by rfl) (by rfl) (World.news_of_block (cs := #[.int .i64 ((k : Int) + 1)]) (t := 3) (fr := (0, 0)) (heap_alloc_new w2 _)) (by simp [Value.oneCell']) (by omega) (by unfold maxLen; omega) (by omega) (by simp; omega) (w2.heap.size + 1) (by simp) ?_)
          intro g1 cap1 w3 hown1 hgrow hat hglt
          have HP := hid (OwnInts.pushedH hown1)
          have HLn := hid (show Later w w3 from HLA.out.grown hgrow (by simp; omega) (fun b hb => HOB.out b hb))
          clear hown1 hgrow
          go_wp2_with fail
          go_roundw
          case rel => exact ⟨k + 1, by omega, by go_num, by rw [HKn.out]; exact HP.out, HLn.out⟩
          case measure => simp [intOf]; omega
        · obtain rfl : n = 0 := by omega
          have HKn := hid (show facK parts b most (k + 1) = F by rw [HKk.out, HHk.out, decide_eq_false h0]; simp)
          clear h0
          go_wp2_with fail
          go_roundw
          case rel => exact ⟨k + 1, by omega, by go_num, by rw [HKn.out]; exact HO2.out.wide (Nat.le_refl _) HS2.out, HL2.out⟩
          case measure => simp [intOf]; omega
      · obtain rfl : k = 20 := by omega
        clear hO hL
        go_wp2_with fail
        go_ret2
        rw [HA.out]
        exact ⟨_, rfl, HO.out, HL.out⟩
end Go.Proofs.Ytoaopmafokoaoaa
