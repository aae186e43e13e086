/- Equations of Hurwitz: the word up (the model). -/
import Derived.Test.YtdahhcigphhfdadHuDn
import Derived.Test.YtdahhcigphhfdadHuBk
import Derived.Test.YtdahhcigphhfdadSqTr
namespace Go.Proofs.Ytdahhcigphhfdad
open Go.RowKit

theorem OwnRows.atH {lo hi : Nat} {w : World} {g n cg : Nat} {L : List (List Int)} (h : OwnRows lo hi w (.slice (some ⟨g, 0, none⟩) n cg) L) (k : Nat) (hk : k < L.length) :
    ∃ a c, w.cell? ⟨g, k, none⟩ = some (.slice a (L.getD k []).length c) ∧ OwnInts lo hi w (.slice a (L.getD k []).length c) (L.getD k []) := by
  obtain ⟨us, hul, hus, _, hin, _⟩ := h.partsH
  have hk2 := hin k hk
  obtain ⟨a, c, e, _⟩ := hk2.shape
  obtain rfl : n = us.length := by
    rcases hus.2 with ⟨e, _⟩ | ⟨_, _, _, e, _⟩
    · simp at e
    · simp only [Value.slice.injEq] at e; exact e.2.1
  have hc : w.cell? ⟨g, k, none⟩ = us[k]? := hus.cellAt k (by omega)
  refine ⟨a, c, ?_, by rw [← e]; exact hk2⟩
  rw [← e, hc, List.getD_eq_getElem?_getD, List.getElem?_eq_getElem (by omega)]; rfl
theorem OwnInts.pushedH {lo : Nat} {w1 : World} {v' : Value} {L : List Int} {x : Int} (ho1 : w1.ownsRow lo 3 1 v' (L.length + 1) (L.map (Value.int .i64) ++ [.int .i64 x])) : OwnInts lo w1.heap.size w1 v' (L ++ [x]) :=
  ⟨by simpa using ho1, fun b hb => (ho1.lt b hb).2⟩
theorem eqL_iff {xs ys : List Int} : eqL xs ys = true ↔ xs = ys := by
  unfold eqL; simp

set_option maxRecDepth 20000 in
set_option maxHeartbeats 8000000 in
theorem specWordUp_any (v : Value) (zs : List Int) (a b : Int) (w : World) (h : IntsC w v zs) :
    Calls Try.prog 21 #[v, .int .i64 a, .int .i64 b] w fun e w' => IntsAns w (upAns zs a b) e w' := by
  obtain ⟨p, cap, rfl, hl, _⟩ := id h.1
  have H := hid h
  clear h
  cases hg : givenB a b
  · have HG := hid hg
    have HA := hid (show upAns zs a b = none by unfold upAns; rw [hg]; simp)
    clear hg
    go_enter Try.func21, Try.ntmps21
    go_wp2_with fail
    refine (huGiven_as a b _ _ HG.out).mono ?_
    rintro e w' ⟨rfl, rfl⟩
    go_wp2_with fail
    go_ret2
    rw [HA.out]
    exact ⟨_, rfl, OwnInts.nothing0 _ _ _, Later.refl _⟩
  · have HG := hid hg
    cases hs : solB zs a b
    · have HS := hid hs
      have HA := hid (show upAns zs a b = none by unfold upAns; rw [hg, hs]; simp)
      clear hg hs
      go_enter Try.func21, Try.ntmps21
      go_wp2_with fail
      refine (huGiven_as a b _ _ HG.out).mono ?_
      rintro e w' ⟨rfl, rfl⟩
      go_wp2_with fail
      refine (huGood_as _ zs a b _ _ HG.out HS.out H.out.1).mono ?_
      rintro e w' ⟨rfl, hL⟩
      have HL := hid hL
      clear hL
      go_wp2_with fail
      go_ret2
      rw [HA.out]
      exact ⟨_, rfl, OwnInts.nothing0 _ _ _, HL.out⟩
    · have HSol := hid (Sol.of hg hs)
      have HS := hid hs
      have HA := hid (show upAns zs a b = some (upW a (wayL a zs) ((wayL a zs).length - 1)) by unfold upAns; rw [if_pos (by rw [hg, hs]; rfl)])
      have hwl := HSol.out.way_len
      have hwp : 1 ≤ (wayL a zs).length := by unfold wayL; simp
      have HWS := hid (way_sol _ zs HSol.out (Nat.le_refl _))
      have HWB := hid (way_back HSol.out)
      obtain ⟨L, hLe⟩ : ∃ L, wayL a zs = L := ⟨_, rfl⟩
      have HLE := hid hLe
      rw [hLe] at HA hwl hwp HWS HWB
      obtain ⟨ii, hii, ii0, ii1, ii2⟩ := info_parts Try.infoInt
      clear hg hs hLe
      go_enter Try.func21, Try.ntmps21
      go_wp2_with fail
      refine (huGiven_as a b _ _ HG.out).mono ?_
      rintro e w' ⟨rfl, rfl⟩
      go_wp2_with fail
      refine (huGood_as _ zs a b _ _ HG.out HS.out H.out.1).mono ?_
      rintro e w' ⟨rfl, hL⟩
      have HL := hid hL
      clear hL
      go_wp2_with fail
      refine (huDown_any zs a b _ _ HSol.out (H.out.later HL.out)).mono ?_
      rintro e w2 ⟨v2, rfl, ho, hL⟩
      rw [HLE.out] at ho
      obtain ⟨us, hul, hus, _⟩ := ho.partsH
      obtain ⟨n, hn⟩ : ∃ n, L.length = n + 1 := ⟨L.length - 1, by omega⟩
      obtain ⟨g, cg, rfl⟩ : ∃ g cg, v2 = .slice (some ⟨g, 0, none⟩) L.length cg := by
        rcases hus.2 with ⟨_, h0⟩ | ⟨g, cap, cur, e, _⟩
        · omega
        · exact ⟨g, cap, by rw [← hul]; exact e⟩
      have HO := hid (ho.wide HL.out.size (Nat.le_refl _))
      have HL2 := hid (HL.out.trans hL)
      have HNN := hid hn
      have hnb : (n : Int) ≤ 400000 := by omega
      have hW2 := hid (show w.heap.size ≤ w2.heap.size from HL2.out.size)
      rw [hn] at HO ⊢
      clear hus hul ho hL hwl hwp hn HL
      go_wp2_with fail
      go_loopw [9, 10] (fun o k wr => ∃ m : Nat, m ≤ n ∧ k = .int .i64 ((n : Int) - m) ∧ OwnInts w2.heap.size wr.heap.size wr o (upW a L m) ∧ Later w2 wr)
        (fun _ k _ => (intOf k).toNat)
      case atStart => exact ⟨0, Nat.zero_le _, by simp, OwnInts.nothing0 _ _ _, Later.refl _⟩
      case round =>
        obtain ⟨m, hm, rfl, ho, hL⟩ := hrel
        have HOW := hid ho
        have HLr := hid hL
        clear ho hL
        by_cases hlt : m < n
        · obtain ⟨K, hK⟩ : ∃ K : Nat, K + 1 = n - m := ⟨n - m - 1, by omega⟩
          have hKI : (n : Int) - (m : Int) = (K : Int) + 1 := by omega
          have hKL : K + 1 < L.length := by have := HNN.out; omega
          have HUP := hid (upW_succ a L m)
          rw [show L.length - 1 - m = K + 1 by have := HNN.out; omega, show L.length - 2 - m = K by have := HNN.out; omega] at HUP
          have hS1 := HWS.out (K + 1) hKL
          have hex := HWB.out K hKL
          obtain ⟨a1, c1, hc1, hr1⟩ := (HO.out.later HLr.out).atH (K + 1) hKL
          obtain ⟨a0, c0, hc0, hr0⟩ := (HO.out.later HLr.out).atH K (by omega)
          obtain ⟨ys, hys⟩ : ∃ ys, L.getD (K + 1) [] = ys := ⟨_, rfl⟩
          obtain ⟨xs, hxs⟩ : ∃ xs, L.getD K [] = xs := ⟨_, rfl⟩
          rw [hys] at hc1 hr1 hS1 hex HUP
          rw [hxs] at hc0 hr0 hex HUP
          obtain ⟨q1, q2, q3⟩ := idxF_spec hex
          have q4 := hS1.hl
          have h0 : 0 < ys.length := by omega
          have hKb : (K : Int) ≤ 400000 := by omega
          have hmI : (m : Int) < (n : Int) := by omega
          obtain ⟨t, ht⟩ : ∃ t, idxF a ys xs = t := ⟨_, rfl⟩
          rw [ht] at q1 q2 q3 HUP
          have HS1 := hid hS1
          have HR1 := hid hr1
          have HR0 := hid hr0
          have Q1 := hid q1
          have Q2 := hid q2
          have Q3 := hid q3
          have H0 := hid h0
          have HKK := hid hK
          rw [hKI]
          clear hys hxs ht hex hr1 hr0 hS1 q1 q2 q3 hK
          go_wp2_with fail
          refine (huJump_any ys a b 0 _ _ H0.out HS1.out HR1.out.intsC).mono ?_
          rintro e w4 ⟨v4, rfl, ho4, hL4⟩
          have HI4 := hid ho4.ints
          have HL4 := hid hL4
          obtain ⟨o4, hjo⟩ : ∃ o, jumpL a ys 0 = o := ⟨_, rfl⟩
          have HJO := hid hjo
          rw [hjo] at HI4 ⊢
          clear ho4 hL4 hjo
          go_wp2_with fail
          go_loopw [11, 12, 13] (fun i nx ok wj => ∃ (j : Nat), j ≤ t ∧ i = .int .i64 j ∧ ok = .bool (jumpL a ys j).isSome ∧ Ints wj nx ((jumpL a ys j).getD []) ∧ Later wr wj)
            (fun i _ _ _ => t - (intOf i).toNat)
          case atStart => exact ⟨0, Nat.zero_le _, rfl, by rw [HJO.out], by rw [HJO.out]; exact HI4.out, HL4.out⟩
          case round =>
            clear HI4 HL4 HJO
            obtain ⟨j, hj, rfl, rfl, hI, hLj⟩ := hrel
            have HIj := hid hI
            have HLj := hid hLj
            obtain ⟨an, cn, rfl, _⟩ := hI
            have HT := hid (show t ≤ 4 by have := Q1.out; omega)
            replace hc1 := hLj.cell hc1
            replace hc0 := hLj.cell hc0
            have HR1j := hid (HR1.out.later hLj)
            have HR0j := hid (HR0.out.later hLj)
            clear hLj
            cases hjo : jumpL a ys j
            · have hlt2 : j < t := by
                apply Decidable.byContradiction
                intro hc
                obtain rfl : j = t := by omega
                rw [Q2.out] at hjo
                simp at hjo
              have HJ1 := hid (show j + 1 < ys.length by have := Q1.out; omega)
              have hj4 : (j : Int) ≤ 4 := by have := HT.out; omega
              clear hjo
              go_wp2_with fail
              have HJc := fun w0 (h : IntsC w0 (.slice a1 ys.length c1) ys) => huJump_any ys a b (j + 1) (.slice a1 ys.length c1) w0 HJ1.out HS1.out h
              rw [show (((j + 1 : Nat)) : Int) = (j : Int) + 1 by omega] at HJc
              refine (HJc _ HR1j.out.intsC).mono ?_
              clear HJc
              rintro e w5 ⟨v5, rfl, ho5, hL5⟩
              have HI5 := hid ho5.ints
              have HL5 := hid (HLj.out.trans hL5)
              clear ho5 hL5
              go_wp2_with fail
              go_roundw
              case rel => exact ⟨j + 1, hlt2, by go_num, rfl, HI5.out, HL5.out⟩
              case measure => simp [intOf]; omega
            · rename_i us'
              rw [hjo] at HIj
              simp only [Option.getD_some, Option.isSome_some] at HIj ⊢
              by_cases hux : us' = xs
              · have HE := hid (show j = t by
                  apply Decidable.byContradiction
                  intro hc
                  exact Q3.out j (by omega) (by rw [hjo, hux]))
                have HEQ := hid (show eqL us' xs = true from eqL_iff.2 hux)
                have hj4 : (j : Int) ≤ 4 := by have := HT.out; omega
                clear hjo hux
                go_wp2_with fail
                refine (l1Same_as HEQ.out HIj.out HR0j.out.ints).mono ?_
                rintro e w5 ⟨rfl, hD5⟩
                have HL5 := hid (HLj.out.trans hD5.later)
                have HOW5 := hid (HOW.out.later HL5.out)
                have HLw5 := hid (HLr.out.trans HL5.out)
                have hul := upW_len a L m
                obtain ⟨P, hP⟩ : ∃ P, upW a L m = P := ⟨_, rfl⟩
                rw [hP] at HOW5 HUP hul
                have hPb : P.length ≤ 400000 := by omega
                clear hul
                have HOA := hid ((HOW5.out.1.alloc (.cells #[Value.int .i64 j] 3)))
                have HOB := hid (fun b (hb : _ = some b) => (HOW5.out.1.lt b hb).1)
                have hws := hid (show w2.heap.size ≤ w5.heap.size from HLw5.out.size)
                have HLA := hid (HLw5.out.trans (Later.alloc w5 (.cells #[Value.int .i64 j] 3)))
                clear hD5 hP
                go_wp2_with (at_builtin; refine wpList_append_lies _ (by rfl) _ _ _ (by rfl) w2.heap.size 3 ii (.int .i64 0) 1 8 Try.underlying24 hii ii0 ii1 ii2 rfl (by omega) _ P.length (P.map (Value.int .i64)) (by rfl) (by exact HOA.out) ⟨w5.heap.size, 0, none⟩ 1 1 [.int .i64 j] (by rfl) (by rfl) (World.news_of_block (cs := #[.int .i64 j]) (t := 3) (fr := (0, 0)) (heap_alloc_new w5 _)) (by simp [Value.oneCell']) (by omega) (by unfold maxLen; omega) (by omega) (by have := hws.out; simp; omega) (w5.heap.size + 1) (by simp) ?_)
                intro g1 cap1 w6 hown1 hgrow hat hglt
                have HP := hid (OwnInts.pushedH hown1)
                have HLn := hid (show Later w2 w6 from HLA.out.grown hgrow (by have := HLA.out.size; simpa using this) (fun b hb => HOB.out b hb))
                clear hown1 hgrow
                go_wp2_with fail
                go_roundw
                case rel => exact ⟨m + 1, hlt, by have := HKK.out; congr 1; omega, by rw [HUP.out, ← HE.out]; exact HP.out, HLn.out⟩
                case measure => simp [intOf]
              · have HLT := hid (show j < t by
                  apply Decidable.byContradiction
                  intro hc
                  obtain rfl : j = t := by omega
                  rw [Q2.out] at hjo
                  simp only [Option.some.injEq] at hjo
                  exact hux hjo.symm)
                have HEQ := hid (show eqL us' xs = false by
                  cases he : eqL us' xs
                  · rfl
                  · exact absurd (eqL_iff.1 he) hux)
                have HJ1 := hid (show j + 1 < ys.length by have := Q1.out; have := HLT.out; omega)
                have hj4 : (j : Int) ≤ 4 := by have := HT.out; omega
                clear hjo hux
                go_wp2_with fail
                refine (l1Same_as HEQ.out HIj.out HR0j.out.ints).mono ?_
                rintro e w5 ⟨rfl, hD5⟩
                replace hc1 := hD5.later.cell hc1
                have HL5 := hid (HLj.out.trans hD5.later)
                have HR5 := hid (HR1j.out.later hD5.later)
                clear hD5
                go_wp2_with fail
                have HJc := fun w0 (h : IntsC w0 (.slice a1 ys.length c1) ys) => huJump_any ys a b (j + 1) (.slice a1 ys.length c1) w0 HJ1.out HS1.out h
                rw [show (((j + 1 : Nat)) : Int) = (j : Int) + 1 by omega] at HJc
                refine (HJc _ HR5.out.intsC).mono ?_
                clear HJc
                rintro e w6 ⟨v6, rfl, ho6, hL6⟩
                have HI6 := hid ho6.ints
                have HL6 := hid (HL5.out.trans hL6)
                clear ho6 hL6
                go_wp2_with fail
                go_roundw
                case rel => exact ⟨j + 1, HLT.out, by go_num, rfl, HI6.out, HL6.out⟩
                case measure => have := HLT.out; simp [intOf]; omega
        · obtain rfl : m = n := by omega
          have HE := hid (show L.length - 1 = m by have := HNN.out; omega)
          have hz : (m : Int) - (m : Int) = 0 := by omega
          rw [hz]
          have HLf := hid (HL2.out.trans HLr.out)
          clear hz
          go_wp2_with fail
          go_ret2
          rw [HA.out, HE.out]
          exact ⟨_, rfl, HOW.out.wide hW2.out (Nat.le_refl _), HLf.out⟩
end Go.Proofs.Ytdahhcigphhfdad
