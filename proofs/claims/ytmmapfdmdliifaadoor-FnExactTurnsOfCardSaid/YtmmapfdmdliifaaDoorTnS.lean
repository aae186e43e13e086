/- All turns of letters, in the model: put in one after the other. -/
import Derived.Test.YtmmapfdmdliifaaDoorTnJ
import Derived.Test.YtmmapfdmdliifaaDoorWdS
import Derived.Sort.Walk0
import Derived.Deep.AppendLies
import Derived.WalkSpells
import Derived.Laws.Concat
namespace Go.Proofs.YtmmapfdmdliifaaDoor
open Go.RowKit

theorem cut_list (s : ByteArray) (a b : Nat) : (s.extract a b).data.toList = (s.data.toList.take b).drop a := by
  rw [ByteArray.data_extract, Array.toList_extract, List.extract_eq_take_drop, List.drop_take]
theorem turn_bytes (s : ByteArray) (k : Nat) : s.extract k s.size ++ s.extract 0 k = ⟨(turn s.data.toList k).toArray⟩ := by
  apply ByteArray.ext
  apply Array.toList_inj.1
  rw [ByteArray.data_append, Array.toList_append, cut_list, cut_list, List.take_of_length_le (by rw [size_list]; exact Nat.le_refl _)]
  simp [turn]
theorem insTo_step (l : List UInt8) (k : Nat) : insTo l (k + 1) = insS (insTo l k) (turn l k) := rfl

theorem insTo_nil {l : List UInt8} {k : Nat} (h : insTo l k = []) : k = 0 := by
  cases k with
  | zero => rfl
  | succ k =>
    have : turn l k ∈ insTo l (k + 1) := (insTo_mem l _ _).2 ⟨k, by omega, rfl⟩
    rw [h] at this
    cases this
theorem strs_take {w : World} {g cap : Nat} {L : List (List UInt8)} (h : Strs w (.slice (some ⟨g, 0, none⟩) L.length cap) L) (j : Nat) : ∀ a u, ((L.take j).map strV)[a]? = some u → w.cell? ((⟨g, 0, none⟩ : Addr).add a) = some u := by
  intro a u hu
  obtain ⟨a0, cap', e, _, hc⟩ := h
  simp only [Value.slice.injEq] at e
  have hla : a < ((L.take j).map strV).length := (List.getElem?_eq_some_iff.1 hu).1
  simp only [List.length_map, List.length_take] at hla
  obtain ⟨ad, e2, hx⟩ := hc a (by omega)
  rw [← e.1, Option.some.injEq] at e2
  subst e2
  rw [hx, ← hu, List.getElem?_map, List.getElem?_take_of_lt (by omega), List.getD_eq_getElem?_getD, List.getElem?_eq_getElem (by omega)]
  rfl
theorem strs_drop {w : World} {g cap : Nat} {L : List (List UInt8)} (h : Strs w (.slice (some ⟨g, 0, none⟩) L.length cap) L) (j : Nat) : ∀ a u, ((L.drop j).map strV)[a]? = some u → w.cell? ((⟨g, j, none⟩ : Addr).add a) = some u := by
  intro a u hu
  obtain ⟨a0, cap', e, _, hc⟩ := h
  simp only [Value.slice.injEq] at e
  have hla : a < ((L.drop j).map strV).length := (List.getElem?_eq_some_iff.1 hu).1
  simp only [List.length_map, List.length_drop] at hla
  obtain ⟨ad, e2, hx⟩ := hc (j + a) (by omega)
  rw [← e.1, Option.some.injEq] at e2
  subst e2
  rw [show (⟨g, j, none⟩ : Addr).add a = (⟨g, 0, none⟩ : Addr).add (j + a) by rw [addr_add0]; unfold Addr.add; split <;> simp_all]
  rw [hx, ← hu, List.getElem?_map, List.getElem?_drop, List.getD_eq_getElem?_getD, List.getElem?_eq_getElem (by omega)]
  rfl
theorem strs_one {L : List (List UInt8)} : ∀ u ∈ L.map strV, u.oneCell' = true := by
  intro u hu
  obtain ⟨x, _, rfl⟩ := List.mem_map.1 hu
  rfl
theorem strs_some {lo hi : Nat} {w : World} {a : Option Addr} {cap : Nat} {L : List (List UInt8)} (h : OwnStrs lo hi w (.slice a L.length cap) L) (hl : 0 < L.length) : ∃ g, a = some ⟨g, 0, none⟩ := by
  rcases h.form with ⟨_, e⟩ | ⟨g, cap', e⟩
  · subst e; simp at hl
  · simp only [Value.slice.injEq] at e
    exact ⟨g, e.1⟩
theorem strs_cell {w : World} {g cap : Nat} {L : List (List UInt8)} (h : Strs w (.slice (some ⟨g, 0, none⟩) L.length cap) L) (j : Nat) (x : List UInt8) (hx : L[j]? = some x) : w.cell? ⟨g, j, none⟩ = some (strV x) := by
  have := strs_take h L.length j (strV x) (by rw [List.take_length, List.getElem?_map, hx]; rfl)
  rwa [addr_add0] at this
theorem ins_own {lo base : Nat} {w : World} {v : Value} {L M : List (List UInt8)} {T : List UInt8} {t : ByteArray} {j : Nat} (hT : strV T = .string t) (hM : M = L.take j ++ [T] ++ L.drop j) (hj : j ≤ L.length)
    (h : w.ownsRow base 9 1 v (L.length + 1) ((L.take j).map strV ++ [.string t] ++ (L.drop j).map strV)) (hlo : lo ≤ base) : OwnStrs lo w.heap.size w v M := by
  have hl : M.length = L.length + 1 := by rw [hM]; simp; omega
  have hm : M.map strV = (L.take j).map strV ++ [.string t] ++ (L.drop j).map strV := by rw [hM]; simp [hT]
  refine ⟨?_, fun b hb => (h.lt b hb).2⟩
  rw [hl, hm]
  exact ownsRow_base h hlo

set_option maxRecDepth 20000 in
set_option maxHeartbeats 4000000 in
theorem chTurns_any (s : ByteArray) (w : World) (hs : s.size ≤ 40) : Calls Tryd.prog 48 #[.string s] w fun e w' => ∃ v, e = .returned v ∧ OwnStrs w.heap.size w'.heap.size w' v (turnsW s.data.toList) ∧ Later w w' := by
  have HTB := hid (fun k => turn_bytes s k)
  have HST := hid (fun k => insTo_step s.data.toList k)
  have HLN := hid (fun k => insTo_len s.data.toList k)
  have HTW := hid (show turnsW s.data.toList = insTo s.data.toList s.size by rw [size_list]; rfl)
  obtain ⟨i0, hi, hz0, hz1, hz2⟩ := info_parts Tryd.infoStrT
  go_enter Tryd.func48, Tryd.ntmps48
  go_wp2_with fail
  go_loopw [3, 4] (fun o i wr => ∃ k : Nat, k ≤ s.size ∧ i = .int .i64 k ∧ OwnStrs w.heap.size wr.heap.size wr o (insTo s.data.toList k) ∧ (k = 0 → o = .slice none 0 0) ∧ Later w wr) (fun _ i _ => s.size - (intOf i).toNat)
  case atStart => exact ⟨0, Nat.zero_le _, rfl, OwnStrs.nil _ _ _, fun _ => rfl, Later.refl _⟩
  case round =>
    obtain ⟨k, hk, rfl, ho, hnl, hL⟩ := hrel
    have HO := hid ho
    have HLr := hid hL
    by_cases hlt : k < s.size
    · have hltI : (k : Int) < (s.size : Int) := by omega
      have hleI : (k : Int) ≤ (s.size : Int) := by omega
      have hl := HLN.out k
      have HSk := hid (HST.out k)
      obtain ⟨L, hLe⟩ : ∃ L, insTo s.data.toList k = L := ⟨_, rfl⟩
      obtain ⟨T, hTe⟩ : ∃ T, turn s.data.toList k = T := ⟨_, rfl⟩
      obtain ⟨t, hte⟩ : ∃ t : ByteArray, s.extract k s.size ++ s.extract 0 k = t := ⟨_, rfl⟩
      have HTS := hid (show strV T = .string t by rw [← hTe, ← hte, HTB.out k]; rfl)
      have HTD := hid (show t.toList = T by rw [Lib.toList_data, ← hte, HTB.out k, ← hTe])
      rw [hLe] at ho hl HSk
      rw [hTe] at HSk
      rw [hLe] at HO
      have HSTR := hid (HO.out.strs)
      have hl41 : L.length ≤ 40 := by omega
      have hsz2 : (s.extract k s.size).size + (s.extract 0 k).size ≤ 80 := by rw [ByteArray.size_extract, ByteArray.size_extract]; omega
      have HTE := hid hte
      have HLK := hid hLe
      clear hL hTe hLe hte
      obtain ⟨a0, cap0, rfl, hcap0⟩ := ho.shape
      have hnil := hid (show k = 0 → a0 = none ∧ cap0 = 0 from fun e => by have := hnl e; simp only [Value.slice.injEq] at this; exact ⟨this.1, this.2.2⟩)
      clear ho hnl
      go_wp2_with fail
      go_quiet (fail)
      have HLd := hid (HLr.out.trans (Later.drewN wr nq))
      have HOd := hid (HO.out.later (Later.drewN wr nq))
      have HSd := hid (HSTR.out.later (Later.drewN wr nq))
      have hszd := hid (show (wr.drewN nq).heap.size = wr.heap.size from rfl)
      generalize wr.drewN nq = wd at HLd HOd HSd hszd ⊢
      go_wp2_with fail
      rw [HTE.out]
      go_loop [6] (fun i => ∃ j : Nat, j ≤ L.length ∧ i = .int .i64 j ∧ ∀ m, m < j → ∀ x, L[m]? = some x → x < T) (fun i => L.length - (intOf i).toNat)
      case atStart => exact ⟨0, Nat.zero_le _, rfl, fun m h => by omega⟩
      case round =>
        obtain ⟨j, hjl, rfl, hbef⟩ := hrel
        have HBF := hid hbef
        clear hbef
        by_cases hjn : j < L.length
        · have hjnI : (j : Int) < (L.length : Int) := by omega
          obtain ⟨g, e0⟩ := strs_some HOd.out (by omega)
          subst e0
          obtain ⟨x, hx⟩ : ∃ x, L[j]? = some x := ⟨L[j], by simp⟩
          have hcell := strs_cell HSd.out j x hx
          obtain ⟨p, hp⟩ : ∃ p : ByteArray, (⟨x.toArray⟩ : ByteArray) = p := ⟨_, rfl⟩
          have HPD := hid (show p.toList = x by rw [← hp, Lib.toList_data])
          rw [show strV x = .string p by rw [← hp]; rfl] at hcell
          have hbl : Op.bytesLess p.toList t.toList = decide (x < T) := by rw [HPD.out, HTD.out, bytesLess_eq]
          have hbe : (p.toList == t.toList) = decide (x = T) := by
            rw [HPD.out, HTD.out]
            by_cases h : x = T
            · rw [h]; simp
            · rw [decide_eq_false h, beq_eq_false_iff_ne]; exact h
          clear hp
          by_cases hlx : x < T
          · have hb : Op.bytesLess p.toList t.toList = true := by rw [hbl]; exact decide_eq_true hlx
            have HLX := hid hlx
            have HX := hid hx
            clear hbl hbe hlx hx
            go_wp2_with fail
            go_round
            case rel => exact ⟨j + 1, hjn, by go_num, fun m h y hy => by
              by_cases e : m = j
              · subst e; rw [HX.out] at hy; cases hy; exact HLX.out
              · exact HBF.out m (by omega) y hy⟩
            case measure => simp [intOf]; omega
          · have hb1 : Op.bytesLess p.toList t.toList = false := by rw [hbl]; exact decide_eq_false hlx
            have hpos : posS L T = j := posS_is (by omega) HBF.out (fun y hy => by rw [hx] at hy; cases hy; exact hlx)
            by_cases hxt : x = T
            · have hb : (p.toList == t.toList) = true := by rw [hbe]; exact decide_eq_true hxt
              have HSAME := hid (show insTo s.data.toList (k + 1) = L by rw [HSk.out]; unfold insS; rw [hpos, if_pos (by rw [hx, hxt])])
              clear hbl hbe hxt hlx hpos hx
              go_wp2_with fail
              go_roundw
              case rel => exact ⟨k + 1, hlt, by go_num, by rw [HSAME.out, hszd.out]; exact HOd.out, fun e => by omega, HLd.out⟩
              case measure => simp [intOf]; omega
            · have hb : (p.toList == t.toList) = false := by rw [hbe]; exact decide_eq_false hxt
              have HINS := hid (show insTo s.data.toList (k + 1) = L.take j ++ [T] ++ L.drop j by rw [HSk.out]; unfold insS; rw [hpos, if_neg (by rw [hx]; exact fun e => hxt (Option.some.inj e))])
              clear hbl hbe hxt hlx hpos hx
              have HOW1 := hid (show (wd.alloc (.cells #[] 9)).ownsRow wd.heap.size 9 1 (.slice (some ⟨wd.heap.size, 0, none⟩) 0 0) 0 [] from ⟨rfl, .inr ⟨wd.heap.size, 0, #[], rfl, Nat.le_refl _, heap_alloc_new wd _, Nat.le_refl _, by omega, by simp, by simp⟩⟩)
              have HNEW := hid (HSd.out.later (Later.alloc wd (.cells #[] 9)))
              have hjc : j ≤ cap0 := by omega
              have hjcI : (j : Int) ≤ (cap0 : Int) := by omega
              have hjlI : (j : Int) ≤ (L.length : Int) := by omega
              go_wp2_with (at_builtin; refine wpList_append_own_at _ (by rfl) _ _ _ (by rfl) wd.heap.size 9 i0 (.string ⟨#[]⟩) 1 16 Tryd.underlying31 hi hz0 hz1 hz2 rfl (by omega) (.slice (some ⟨wd.heap.size, 0, none⟩) 0 0) 0 [] (by rfl) (by exact HOW1.out) ⟨g, 0, none⟩ j cap0 ((L.take j).map strV) (by rfl) (by simp; omega) (strs_take HNEW.out j) strs_one (by unfold maxLen; omega) (by omega) (by simp) ?_)
              intro v1 w1 hown1 hgrow1 _ _
              have HO1 := hid (show w1.ownsRow wd.heap.size 9 1 v1 j ((L.take j).map strV) by simpa using hown1)
              have HL1 := hid (show Later wd w1 from (Later.alloc wd (.cells #[] 9)).grown hgrow1 (by simp) (fun b hb => by simp [Value.ownBlock] at hb; omega))
              obtain ⟨a1, c1, hv1, _, _, _, _⟩ := ownsRow_shape HO1.out
              subst hv1
              have HOW2 := hid (HO1.out.alloc (.cells #[Value.string t] 9))
              have hw1 := HL1.out.size
              clear hown1 hgrow1 HNEW HOW1
              go_wp2_with (at_builtin; refine wpList_append_own_at _ (by rfl) _ _ _ (by rfl) wd.heap.size 9 i0 (.string ⟨#[]⟩) 1 16 Tryd.underlying31 hi hz0 hz1 hz2 rfl (by omega) (.slice a1 j c1) j ((L.take j).map strV) (by rfl) (by exact HOW2.out) ⟨w1.heap.size, 0, none⟩ 1 1 [.string t] (by rfl) (by rfl) (World.news_of_block (cs := #[.string t]) (t := 9) (fr := (0, 0)) (heap_alloc_new w1 _)) (by simp [Value.oneCell']) (by unfold maxLen; omega) (by omega) (by simp; omega) ?_)
              intro v2 w2 hown2 hgrow2 _ _
              have HO2 := hid (show w2.ownsRow wd.heap.size 9 1 v2 (j + 1) ((L.take j).map strV ++ [.string t]) by simpa using hown2)
              have HL2 := hid (show Later wd w2 from (HL1.out.trans (Later.alloc w1 (.cells #[Value.string t] 9))).grown hgrow2 (by simp; omega) (fun b hb => (HO1.out.lt b hb).1))
              have HN2 := hid (HSd.out.later HL2.out)
              have hw2 := HL2.out.size
              obtain ⟨a2, c2, hv2, _, _, _, _⟩ := ownsRow_shape HO2.out
              subst hv2
              clear hown2 hgrow2 HOW2 HO1
              have hcj : ¬ cap0 = j := by omega
              have hcj1 : ¬ (cap0 : Int) = (j : Int) := by omega
              go_wp2_with (at_builtin; refine wpList_append_own_at _ (by rfl) _ _ _ (by rfl) wd.heap.size 9 i0 (.string ⟨#[]⟩) 1 16 Tryd.underlying31 hi hz0 hz1 hz2 rfl (by omega) (.slice a2 (j + 1) c2) (j + 1) ((L.take j).map strV ++ [.string t]) (by rfl) (by exact HO2.out) ⟨g, j, none⟩ (L.length - j) (cap0 - j) ((L.drop j).map strV) (by rfl) (by simp) (strs_drop HN2.out j) strs_one (by unfold maxLen; omega) (by omega) (by omega) ?_)
              intro v3 w3 hown3 hgrow3 _ _
              have HL3 := hid (show Later w w3 from HLd.out.trans (HL2.out.grown hgrow3 (by omega) (fun b hb => (HO2.out.lt b hb).1)))
              have HO3 := hid (ins_own HTS.out HINS.out hjl (show w3.ownsRow wd.heap.size 9 1 v3 (L.length + 1) ((L.take j).map strV ++ [.string t] ++ (L.drop j).map strV) by rw [show L.length + 1 = j + 1 + (L.length - j) by omega]; simpa using hown3) HLd.out.size)
              clear hown3 hgrow3
              go_wp2_with fail
              go_roundw
              case rel => exact ⟨k + 1, hlt, by go_num, HO3.out, fun e => by omega, HL3.out⟩
              case measure => simp [intOf]; omega

        · have hje : j = L.length := by omega
          have hpos : posS L T = j := posS_is (by omega) HBF.out (fun y hy => by rw [hje, List.getElem?_eq_none (Nat.le_refl _)] at hy; cases hy)
          have HINS := hid (show insTo s.data.toList (k + 1) = L.take j ++ [T] ++ L.drop j by rw [HSk.out]; unfold insS; rw [hpos, if_neg (by rw [hje, List.getElem?_eq_none (Nat.le_refl _)]; simp)])
          clear hpos
          by_cases hL0 : L.length = 0
          · obtain rfl : L = [] := List.eq_nil_of_length_eq_zero hL0
            obtain rfl : j = 0 := by simpa using hje
            obtain ⟨e0, ec⟩ := hnil.out (insTo_nil HLK.out)
            subst e0
            subst ec
            clear hL0 hje hjn
            have HOW1 := hid (show (wd.alloc (.cells #[] 9)).ownsRow wd.heap.size 9 1 (.slice (some ⟨wd.heap.size, 0, none⟩) 0 0) 0 [] from ⟨rfl, .inr ⟨wd.heap.size, 0, #[], rfl, Nat.le_refl _, heap_alloc_new wd _, Nat.le_refl _, by omega, by simp, by simp⟩⟩)
            have HOWT := hid (HOW1.out.alloc (.cells #[Value.string t] 9))
            have HNT := hid (show ∀ (a : Nat) u, ([Value.string t] : List Value)[a]? = some u → ((wd.alloc (.cells #[] 9)).alloc (.cells #[Value.string t] 9)).cell? ((⟨wd.heap.size + 1, 0, none⟩ : Addr).add a) = some u from fun a u h => by
              match a, h with
              | 0, h =>
                obtain rfl : Value.string t = u := by simpa using h
                rw [addr_add0]; simp [go_sem])
            have HLT := hid ((Later.alloc wd (.cells #[] 9)).trans (Later.alloc _ (.cells #[Value.string t] 9)))
            go_wp2_with (at_builtin; refine wpList_append_own_at _ (by rfl) _ _ _ (by rfl) wd.heap.size 9 i0 (.string ⟨#[]⟩) 1 16 Tryd.underlying31 hi hz0 hz1 hz2 rfl (by omega) (.slice (some ⟨wd.heap.size, 0, none⟩) 0 0) 0 [] (by rfl) (by exact HOWT.out) ⟨wd.heap.size + 1, 0, none⟩ 1 1 [.string t] (by rfl) (by rfl) HNT.out (by simp [Value.oneCell']) (by unfold maxLen; omega) (by omega) (by simp; omega) ?_)
            intro v2 w2 hown2 hgrow2 _ _
            have HO2 := hid (show w2.ownsRow wd.heap.size 9 1 v2 1 [.string t] by simpa using hown2)
            have HL2 := hid (show Later w w2 from HLd.out.trans (HLT.out.grown hgrow2 (by simp; omega) (fun b hb => by simp [Value.ownBlock] at hb; omega)))
            have HO3 := hid (ins_own (L := []) (j := 0) HTS.out HINS.out (Nat.le_refl _) (show w2.ownsRow wd.heap.size 9 1 v2 1 [.string t] from HO2.out) HLd.out.size)
            obtain ⟨a2, c2, hv2, hc2, _, _, hcl2⟩ := ownsRow_shape HO2.out
            obtain ⟨g2, hg2, _⟩ := hcl2 0 (by omega)
            subst hg2
            subst hv2
            clear hcl2 hown2 hgrow2 HOWT HOW1 HNT HLT HO2
            go_wp2_with fail
            go_roundw
            case rel => exact ⟨k + 1, hlt, by go_num, HO3.out, fun e => by omega, HL2.out⟩
            case measure => simp [intOf]; omega
          · obtain ⟨g, e0⟩ := strs_some HOd.out (by omega)
            subst e0
            clear hL0 hje
            have HOW1 := hid (show (wd.alloc (.cells #[] 9)).ownsRow wd.heap.size 9 1 (.slice (some ⟨wd.heap.size, 0, none⟩) 0 0) 0 [] from ⟨rfl, .inr ⟨wd.heap.size, 0, #[], rfl, Nat.le_refl _, heap_alloc_new wd _, Nat.le_refl _, by omega, by simp, by simp⟩⟩)
            have HNEW := hid (HSd.out.later (Later.alloc wd (.cells #[] 9)))
            have hjc : j ≤ cap0 := by omega
            have hjcI : (j : Int) ≤ (cap0 : Int) := by omega
            have hjlI : (j : Int) ≤ (L.length : Int) := by omega
            go_wp2_with (at_builtin; refine wpList_append_own_at _ (by rfl) _ _ _ (by rfl) wd.heap.size 9 i0 (.string ⟨#[]⟩) 1 16 Tryd.underlying31 hi hz0 hz1 hz2 rfl (by omega) (.slice (some ⟨wd.heap.size, 0, none⟩) 0 0) 0 [] (by rfl) (by exact HOW1.out) ⟨g, 0, none⟩ j cap0 ((L.take j).map strV) (by rfl) (by simp; omega) (strs_take HNEW.out j) strs_one (by unfold maxLen; omega) (by omega) (by simp) ?_)
            intro v1 w1 hown1 hgrow1 _ _
            have HO1 := hid (show w1.ownsRow wd.heap.size 9 1 v1 j ((L.take j).map strV) by simpa using hown1)
            have HL1 := hid (show Later wd w1 from (Later.alloc wd (.cells #[] 9)).grown hgrow1 (by simp) (fun b hb => by simp [Value.ownBlock] at hb; omega))
            obtain ⟨a1, c1, hv1, _, _, _, _⟩ := ownsRow_shape HO1.out
            subst hv1
            have HOW2 := hid (HO1.out.alloc (.cells #[Value.string t] 9))
            have hw1 := HL1.out.size
            clear hown1 hgrow1 HNEW HOW1
            go_wp2_with (at_builtin; refine wpList_append_own_at _ (by rfl) _ _ _ (by rfl) wd.heap.size 9 i0 (.string ⟨#[]⟩) 1 16 Tryd.underlying31 hi hz0 hz1 hz2 rfl (by omega) (.slice a1 j c1) j ((L.take j).map strV) (by rfl) (by exact HOW2.out) ⟨w1.heap.size, 0, none⟩ 1 1 [.string t] (by rfl) (by rfl) (World.news_of_block (cs := #[.string t]) (t := 9) (fr := (0, 0)) (heap_alloc_new w1 _)) (by simp [Value.oneCell']) (by unfold maxLen; omega) (by omega) (by simp; omega) ?_)
            intro v2 w2 hown2 hgrow2 _ _
            have HO2 := hid (show w2.ownsRow wd.heap.size 9 1 v2 (j + 1) ((L.take j).map strV ++ [.string t]) by simpa using hown2)
            have HL2 := hid (show Later wd w2 from (HL1.out.trans (Later.alloc w1 (.cells #[Value.string t] 9))).grown hgrow2 (by simp; omega) (fun b hb => (HO1.out.lt b hb).1))
            have HN2 := hid (HSd.out.later HL2.out)
            have hw2 := HL2.out.size
            obtain ⟨a2, c2, hv2, _, _, _, _⟩ := ownsRow_shape HO2.out
            subst hv2
            clear hown2 hgrow2 HOW2 HO1
            by_cases hcj : cap0 = j
            · have HJL := hid (show j = L.length by omega)
              have hcjI : (cap0 : Int) = (j : Int) := by omega
              have HDR := hid (show L.drop j = [] from List.drop_of_length_le (by have := HJL.out; omega))
              go_wp2_with (at_builtin; refine wpList_append_own_at _ (by rfl) _ _ _ (by rfl) wd.heap.size 9 i0 (.string ⟨#[]⟩) 1 16 Tryd.underlying31 hi hz0 hz1 hz2 rfl (by omega) (.slice a2 (j + 1) c2) (j + 1) ((L.take j).map strV ++ [.string t]) (by rfl) (by exact HO2.out) ⟨g, 0, none⟩ (L.length - j) _ ((L.drop j).map strV) (by rfl) (by simp) (fun a u h => by rw [HDR.out] at h; simp at h) strs_one (by unfold maxLen; omega) (by omega) (by omega) ?_)
              intro v3 w3 hown3 hgrow3 _ _
              have HL3 := hid (show Later w w3 from HLd.out.trans (HL2.out.grown hgrow3 (by omega) (fun b hb => (HO2.out.lt b hb).1)))
              have HO3 := hid (ins_own HTS.out HINS.out hjl (show w3.ownsRow wd.heap.size 9 1 v3 (L.length + 1) ((L.take j).map strV ++ [.string t] ++ (L.drop j).map strV) by rw [show L.length + 1 = j + 1 + (L.length - j) by omega]; simpa using hown3) HLd.out.size)
              clear hown3 hgrow3
              go_wp2_with fail
              go_roundw
              case rel => exact ⟨k + 1, hlt, by go_num, HO3.out, fun e => by omega, HL3.out⟩
              case measure => simp [intOf]; omega
            · have hcj1 : ¬ (cap0 : Int) = (j : Int) := by omega
              go_wp2_with (at_builtin; refine wpList_append_own_at _ (by rfl) _ _ _ (by rfl) wd.heap.size 9 i0 (.string ⟨#[]⟩) 1 16 Tryd.underlying31 hi hz0 hz1 hz2 rfl (by omega) (.slice a2 (j + 1) c2) (j + 1) ((L.take j).map strV ++ [.string t]) (by rfl) (by exact HO2.out) ⟨g, j, none⟩ (L.length - j) (cap0 - j) ((L.drop j).map strV) (by rfl) (by simp) (strs_drop HN2.out j) strs_one (by unfold maxLen; omega) (by omega) (by omega) ?_)
              intro v3 w3 hown3 hgrow3 _ _
              have HL3 := hid (show Later w w3 from HLd.out.trans (HL2.out.grown hgrow3 (by omega) (fun b hb => (HO2.out.lt b hb).1)))
              have HO3 := hid (ins_own HTS.out HINS.out hjl (show w3.ownsRow wd.heap.size 9 1 v3 (L.length + 1) ((L.take j).map strV ++ [.string t] ++ (L.drop j).map strV) by rw [show L.length + 1 = j + 1 + (L.length - j) by omega]; simpa using hown3) HLd.out.size)
              clear hown3 hgrow3
              go_wp2_with fail
              go_roundw
              case rel => exact ⟨k + 1, hlt, by go_num, HO3.out, fun e => by omega, HL3.out⟩
              case measure => simp [intOf]; omega

    · have hke : k = s.size := by omega
      subst hke
      rw [← HTW.out] at HO ho
      obtain ⟨a0, cap0, rfl, hcap0⟩ := ho.shape
      clear ho hL hnl
      go_wp2_with fail
      go_ret
      exact ⟨_, rfl, HO.out, HLr.out⟩
end Go.Proofs.YtmmapfdmdliifaaDoor
