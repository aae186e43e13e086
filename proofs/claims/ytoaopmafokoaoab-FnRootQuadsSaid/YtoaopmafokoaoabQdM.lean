/- Four curvatures: DownPath, DownWord (the program). -/
import Derived.Test.YtoaopmafokoaoabQdL
namespace Go.Proofs.Ytoaopmafokoaoab
open Go.RowKit

def PathAns (w : World) (zs : List Int) (e : Ending) (w' : World) : Prop :=
  ∃ v L, e = .returned (.tuple #[v, .bool (decide ((L.length : Int) ≤ 200))]) ∧ OwnQs w.heap.size w' v L ∧ L.map qsL = wayQ zs ∧ L.length ≤ 400000 ∧ 1 ≤ L.length ∧ Later w w'
theorem QWay.len {zs : List Int} (h : apB zs = true) {L : List Qd4} (hm : L.map qsL = wayQ zs) : L.length ≤ 400000 ∧ 1 ≤ L.length ∧ (wayQ zs).length = L.length := by
  have h1 := wayQ_len h
  have h2 : (wayQ zs).length = L.length := by rw [← hm, List.length_map]
  have h3 : 1 ≤ (wayQ zs).length := by simp [wayQ]
  omega
set_option maxRecDepth 20000 in
set_option maxHeartbeats 2000000 in
theorem downPathOf_no (v : Value) (zs : List Int) (w : World) (hg : apB zs = false) (h : Ints w v zs) :
    Calls Try.prog 50 #[v] w fun e w' => e = .returned (.tuple #[.slice none 0 0, .bool false]) ∧ Later w w' := by
  obtain ⟨p, cap, rfl, hl, _⟩ := id h
  have H := hid h
  have HG := hid hg
  clear h hg
  go_enter Try.func50, Try.ntmps50
  go_wp2_with fail
  refine (quadOf_no _ zs _ HG.out H.out).mono ?_
  rintro e w1 ⟨rfl, hL⟩
  have HL := hid (hL.trans (Later.alloc w1 (.cells #[.int .i64 0, .int .i64 0, .int .i64 0, .int .i64 0] 62)))
  clear hL
  go_wp2_with fail
  go_ret2
  exact ⟨rfl, HL.out⟩
set_option maxRecDepth 20000 in
set_option maxHeartbeats 2000000 in
theorem downPathOf_yes (v : Value) (zs : List Int) (w : World) (hg : apB zs = true) (h : Ints w v zs) :
    Calls Try.prog 50 #[v] w fun e w' => PathAns w zs e w' := by
  obtain ⟨p, cap, rfl, hl, _⟩ := id h
  have H := hid h
  have HG := hid hg
  obtain ⟨a, b, c, d, rfl, hq⟩ := apB_four hg
  have HQ := hid hq
  clear h hg hq
  go_enter Try.func50, Try.ntmps50
  go_wp2_with fail
  refine (quadOf_yes _ a b c d _ HG.out H.out).mono ?_
  rintro e w1 ⟨rfl, hL⟩
  obtain ⟨c0, c1, c2, c3, _, _, _, _⟩ := QBox.new w1 a b c d
  have HL := hid (hL.trans (Later.alloc w1 (.cells #[.int .i64 a, .int .i64 b, .int .i64 c, .int .i64 d] 62)))
  clear hL
  go_wp2_with fail
  refine (downPathS_any a b c d _ HQ.out).mono ?_
  rintro e w2 ⟨v2, L, rfl, ho, hm, hL2⟩
  have HO := hid (ho.base HL.out.size)
  have HM := hid hm
  have HLN := hid (QWay.len HG.out hm)
  have HL2 := hid (HL.out.trans hL2)
  obtain ⟨o1, o2, rfl, _⟩ := ho.shape
  clear hL2 ho hm
  go_wp2_with fail
  go_ret2
  exact ⟨_, L, rfl, HO.out, HM.out, HLN.out.1, HLN.out.2.1, HL2.out⟩
set_option maxRecDepth 20000 in
set_option maxHeartbeats 2000000 in
theorem implDownPath_any (v : Value) (zs : List Int) (w : World) (h : Ints w v zs) :
    Calls Try.prog 8 #[v] w fun e w' => RowsAns w (qwayAns zs) e w' := by
  obtain ⟨p, cap, rfl, hl, _⟩ := id h
  have H := hid h
  clear h
  cases hg : apB zs
  · have HG := hid hg
    have HA := hid (show qwayAns zs = none by unfold qwayAns; rw [hg]; simp)
    clear hg
    go_enter Try.func8, Try.ntmps8
    go_wp2_with fail
    refine (downPathOf_no _ zs _ HG.out H.out).mono ?_
    rintro e w1 ⟨rfl, hL⟩
    have HL := hid hL
    clear hL
    go_wp2_with fail
    go_ret2
    rw [HA.out]
    exact ⟨_, rfl, OwnRows.noneH _ _ _, HL.out⟩
  · have HG := hid hg
    have HA1 := hid (fun (h : (wayQ zs).length ≤ 200) => show qwayAns zs = some (wayQ zs) by unfold qwayAns; rw [if_pos ⟨hg, h⟩])
    have HA2 := hid (fun (h : 200 < (wayQ zs).length) => show qwayAns zs = none by unfold qwayAns; rw [if_neg (by omega)])
    clear hg
    go_enter Try.func8, Try.ntmps8
    go_wp2_with fail
    refine (downPathOf_yes _ zs _ HG.out H.out).mono ?_
    rintro e w1 ⟨v2, L, rfl, ho, hm, hlb, hl1, hL⟩
    have hwl := (QWay.len HG.out hm).2.2
    have HWL := hid hwl
    have HO := hid ho
    have HM := hid hm
    have HL := hid hL
    obtain ⟨o1, o2, rfl, _⟩ := ho.shape
    clear ho hm hL hwl
    by_cases h200 : L.length ≤ 200
    · have hd : decide ((L.length : Int) ≤ 200) = true := decide_eq_true (by omega)
      have HA := hid (HA1.out (by rw [HWL.out]; exact h200))
      rw [hd]
      go_wp2_with fail
      refine (listsOfQ_any _ L _ (by omega) (HO.out.qs (by omega))).mono ?_
      rintro e w4 ⟨v4, rfl, ho4, hL4⟩
      rw [HM.out] at ho4
      obtain ⟨a4, c4, rfl, _⟩ := ho4.shape
      have HO4 := hid (ho4.wide HL.out.size (Nat.le_refl _))
      have HL4 := hid (HL.out.trans hL4)
      clear ho4 hL4
      go_wp2_with fail
      go_ret2
      rw [HA.out]
      exact ⟨_, rfl, HO4.out, HL4.out⟩
    · have hd : decide ((L.length : Int) ≤ 200) = false := decide_eq_false (by omega)
      have HA := hid (HA2.out (by rw [HWL.out]; omega))
      rw [hd]
      go_wp2_with fail
      go_ret2
      rw [HA.out]
      exact ⟨_, rfl, OwnRows.noneH _ _ _, HL.out⟩
theorem qwordL_len {zs : List Int} {L : List Qd4} (hm : L.map qsL = wayQ zs) (n : Nat) (hn : L.length = n + 1) : (qwordL zs).length = n := by
  unfold qwordL
  rw [← hm]
  simp [hn]
theorem qwordL_at {zs : List Int} {L : List Qd4} (hm : L.map qsL = wayQ zs) (n : Nat) (hn : L.length = n + 1) (k : Nat) (hk : k < n) : (qwordL zs)[k]? = some ((gIx (qsL (L.getD k (0, 0, 0, 0))) : Nat) : Int) := by
  unfold qwordL
  rw [← hm]
  have hk2 : k < L.length := by omega
  rw [List.getElem?_map, List.getElem?_dropLast, List.length_map, if_pos (by omega), List.getElem?_map, List.getElem?_eq_getElem hk2]
  simp [hk2]
set_option maxRecDepth 20000 in
set_option maxHeartbeats 4000000 in
theorem implDownWord_any (v : Value) (zs : List Int) (w : World) (h : Ints w v zs) :
    Calls Try.prog 10 #[v] w fun e w' => IntsAns w (qwordAns zs) e w' := by
  obtain ⟨ii, hii, ii0, ii1, ii2⟩ := info_parts Try.infoInt
  obtain ⟨p, cap, rfl, hl, _⟩ := id h
  have H := hid h
  clear h
  cases hg : apB zs
  · have HG := hid hg
    have HA := hid (show qwordAns zs = none by unfold qwordAns; rw [hg]; simp)
    clear hg
    go_enter Try.func10, Try.ntmps10
    go_wp2_with fail
    refine (downPathOf_no _ zs _ HG.out H.out).mono ?_
    rintro e w1 ⟨rfl, hL⟩
    have HL := hid hL
    clear hL
    go_wp2_with fail
    go_ret2
    rw [HA.out]
    exact ⟨_, rfl, OwnInts.nothing0 _ _ _, HL.out⟩
  · have HG := hid hg
    have HA1 := hid (fun (h : (wayQ zs).length ≤ 200) => show qwordAns zs = some (qwordL zs) by unfold qwordAns; rw [if_pos ⟨hg, h⟩])
    have HA2 := hid (fun (h : 200 < (wayQ zs).length) => show qwordAns zs = none by unfold qwordAns; rw [if_neg (by omega)])
    clear hg
    go_enter Try.func10, Try.ntmps10
    go_wp2_with fail
    refine (downPathOf_yes _ zs _ HG.out H.out).mono ?_
    rintro e w1 ⟨v2, L, rfl, ho, hm, hlb, hl1, hL⟩
    have hwl := (QWay.len HG.out hm).2.2
    have HWL := hid hwl
    have HO := hid ho
    have HM := hid hm
    have HL := hid hL
    obtain ⟨o1, o2, rfl, _⟩ := ho.shape
    clear ho hm hL hwl
    by_cases h200 : L.length ≤ 200
    · have hd : decide ((L.length : Int) ≤ 200) = true := decide_eq_true (by omega)
      have HA := hid (HA1.out (by rw [HWL.out]; exact h200))
      obtain ⟨n, hn⟩ : ∃ n, L.length = n + 1 := ⟨L.length - 1, by omega⟩
      have HN := hid hn
      have HQL := hid (qwordL_len HM.out n hn)
      have HQA := hid (fun k hk => qwordL_at HM.out n hn k hk)
      have hnb : n ≤ 200 := by omega
      have hw1 : ((n : Int) + 1) - 1 = (n : Int) := by omega
      obtain ⟨_, _, e1, _, hcs⟩ := HO.out.qs (by omega)
      obtain ⟨g, hgg, -⟩ := hcs 0 (by omega)
      simp only [Value.slice.injEq] at e1
      obtain ⟨rfl, _, rfl⟩ := e1
      subst hgg
      have HCS := hid hcs
      rw [hd, hn]
      clear hcs hn h200 hlb hl1
      go_wp2_with (at_make; refine wpList_make_full _ rfl _ _ 24 rfl w1.heap.size 3 ii (.int .i64 0) 1 Try.underlying24 hii ii0 ii1 _ _ _ _ n rfl rfl rfl rfl ?b2 ?b3 ?b4 ?_)
      case b2 => rw [ii2]; omega
      case b3 => unfold maxLen; omega
      case b4 => exact Nat.le_refl _
      intro w5 hown hgrow
      have hL5 : Later w w5 := HL.out.grown hgrow HL.out.size (by simp)
      have hL45 : Later w1 w5 := (Below.refl _ _).grown hgrow (Nat.le_refl _) (by simp)
      obtain ⟨C, hC⟩ : ∃ C, w1.heap.size = C := ⟨_, rfl⟩
      have HWC := hid (show w.heap.size ≤ C by rw [← hC]; exact HL.out.size)
      have HGC := hid (show g < C by rw [← hC]; exact (HO.out.lt g rfl).2)
      rw [hC] at hown ⊢
      have HF5 := hid (show Filled C 3 w5 (.slice (some ⟨C, 0, none⟩) n n) n 0 ((qwordL zs).map (Value.int .i64)) from ⟨_, hown, rfl⟩)
      have HQ5 := hid (HO.out.later hL45)
      have HL5 := hid hL5
      clear hown hgrow hL5 hL45 hC
      go_wp2_with fail
      go_loopw [21] (fun i wr => ∃ k : Nat, k ≤ n ∧ i = .int .i64 k ∧ OwnQs w.heap.size wr (.slice (some ⟨g, 0, none⟩) L.length o2) L ∧ Filled C 3 wr (.slice (some ⟨C, 0, none⟩) n n) n k ((qwordL zs).map (Value.int .i64)) ∧ Later w wr)
        (fun i _ => n - (intOf i).toNat)
      case atStart => exact ⟨0, Nat.zero_le _, rfl, HQ5.out, HF5.out, HL5.out⟩
      case round =>
        clear HQ5 HF5 HL5
        obtain ⟨k, hk, rfl, ho, hf, hL⟩ := hrel
        have HOr := hid ho
        have HF := hid hf
        have HLr := hid hL
        by_cases hlt : k < n
        · have hkL : k < L.length := by have := HN.out; omega
          obtain ⟨_, _, e1, _, hcs⟩ := ho.qs (by have := HN.out; omega)
          obtain ⟨g', hgg, c0, c1, c2, c3⟩ := hcs k hkL
          simp only [Value.slice.injEq] at e1
          obtain ⟨rfl, _, rfl⟩ := e1
          simp only [Option.some.injEq, Addr.mk.injEq, and_true] at hgg
          subst hgg
          have hqa := HQA.out k hlt
          rw [show L.getD k (0, 0, 0, 0) = L[k] by simp [hkL]] at hqa
          obtain ⟨⟨x, y, z, t⟩, hs⟩ : ∃ s, L[k] = s := ⟨_, rfl⟩
          rw [hs] at c0 c1 c2 c3 hqa
          simp only at c0 c1 c2 c3
          change (qwordL zs)[k]? = some ((gIx [x, y, z, t] : Nat) : Int) at hqa
          obtain ⟨q, hq⟩ : ∃ q, gIx [x, y, z, t] = q := ⟨_, rfl⟩
          have HIX := hid (fun (w0 : World) => indexOfGreatest_as x y z t q w0 hq)
          rw [hq] at hqa
          have hst := hf.step (u := .int .i64 (q : Int)) hlt (by rw [List.getElem?_map, hqa]; rfl)
          have k4 : (k : Int) < (n : Int) + 1 := by omega
          have k5 : (k : Int) < (n : Int) := by omega
          have hLn := HN.out
          have HQA2 := hid hqa
          clear ho hf hL hcs hs hq hqa hst
          rw [hLn] at HOr
          go_wp2_with fail
          refine (HIX.out _).mono ?_
          rintro e w6 ⟨rfl, hL6⟩
          obtain ⟨xs, hox, htk⟩ := HF.out
          have hox6 : w6.ownsRow C 3 1 (.slice (some ⟨C, 0, none⟩) n n) n xs := ownsRow_keep hox fun b hb => hL6.block b (hox.lt b hb).2
          have HF6 := hid (show Filled C 3 w6 (.slice (some ⟨C, 0, none⟩) n n) n k ((qwordL zs).map (Value.int .i64)) from ⟨xs, hox6, htk⟩)
          have HO6 := hid (HOr.out.later hL6)
          have HL6 := hid (HLr.out.trans hL6)
          obtain ⟨⟨u0, hu0⟩, hfr⟩ := HF6.out.at hlt
          have HF7 := hid (HF6.out.step (u := .int .i64 (q : Int)) hlt (by rw [List.getElem?_map, HQA2.out]; rfl))
          have HO7 := hid (show OwnQs w.heap.size (w6.setCell ⟨C, k, none⟩ (.int .i64 (q : Int))) (.slice (some ⟨g, 0, none⟩) (n + 1) o2) L from ownsRow_keepQ HO6.out fun b hb => heap_setCell_other _ _ b _ (by simp [Value.ownBlock] at hb; subst hb; simp; have := HGC.out; omega))
          have HL7 := hid (show Later w (w6.setCell ⟨C, k, none⟩ (.int .i64 (q : Int))) from HL6.out.setCell HWC.out _)
          clear hL6 hox hox6 htk c0 c1 c2 c3
          go_wp2_with fail
          go_roundw
          case rel => exact ⟨k + 1, hlt, by go_num, by rw [hLn]; exact HO7.out, HF7.out, HL7.out⟩
          case measure => simp [intOf]; omega
        · obtain rfl : k = n := by omega
          have HOW := hid (HF.out.full (by rw [List.length_map]; exact HQL.out))
          have HOI := hid (show OwnInts w.heap.size wr.heap.size wr (.slice (some ⟨C, 0, none⟩) k k) (qwordL zs) from ⟨by rw [HQL.out]; exact ownsRow_base HOW.out HWC.out, fun b hb => (HOW.out.lt b hb).2⟩)
          go_wp2_with fail
          go_ret2
          rw [HA.out]
          exact ⟨_, rfl, HOI.out, HLr.out⟩
    · have hd : decide ((L.length : Int) ≤ 200) = false := decide_eq_false (by omega)
      have HA := hid (HA2.out (by rw [HWL.out]; omega))
      rw [hd]
      go_wp2_with fail
      go_ret2
      rw [HA.out]
      exact ⟨_, rfl, OwnInts.nothing0 _ _ _, HL.out⟩
end Go.Proofs.Ytoaopmafokoaoab
