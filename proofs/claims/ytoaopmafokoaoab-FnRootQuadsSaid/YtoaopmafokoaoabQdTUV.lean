/- QdT, QdU, QdV: in one text. -/
import Derived.Test.YtoaopmafokoaoabQdS
import Derived.Test.YtoaopmafokoaoabHuUVW
namespace Go.Proofs.Ytoaopmafokoaoab
open Go.RowKit


theorem Md.getD {a b c d : Int} (h : Md a b c d) (i : Nat) (hi : i < 4) : -10000000 ≤ [a, b, c, d].getD i 0 ∧ [a, b, c, d].getD i 0 ≤ 10000000 := by
  obtain ⟨a1, a2, b1, b2, c1, c2, d1, d2⟩ := h
  have h4 : i = 0 ∨ i = 1 ∨ i = 2 ∨ i = 3 := by omega
  rcases h4 with rfl | rfl | rfl | rfl <;> simp <;> omega
set_option maxRecDepth 20000 in
set_option maxHeartbeats 2000000 in
theorem apSwap_any (v : Value) (a b c d : Int) (i : Nat) (w : World) (hi : i < 4) (hm : Md a b c d) (h : Ints w v [a, b, c, d]) :
    Calls Try.prog 66 #[v, .int .i64 i] w fun e w' => MadeInts w (swL [a, b, c, d] i) e w' := by
  obtain ⟨ad, cap, rfl, _⟩ := h.four
  have H := hid h
  have HM := hid hm
  have hmi := hm.getD i hi
  obtain ⟨x, hx⟩ : ∃ x, [a, b, c, d].getD i 0 = x := ⟨_, rfl⟩
  have HX := hid hx
  rw [hx] at hmi
  have HSW := hid (show swN [a, b, c, d] i = 2 * (a + b + c + d - x) - x by unfold swN; rw [sum4, hx])
  obtain ⟨x1, x2⟩ := hmi
  obtain ⟨s, hs⟩ : ∃ s, a + b + c + d = s := ⟨_, rfl⟩
  have hsb : -40000000 ≤ s ∧ s ≤ 40000000 := by have := hm.a1; have := hm.a2; have := hm.b1; have := hm.b2; have := hm.c1; have := hm.c2; have := hm.d1; have := hm.d2; omega
  obtain ⟨s1, s2⟩ := hsb
  have HSM := hid (fun (v : Value) (w0 : World) (h0 : Ints w0 v [a, b, c, d]) => show Calls Try.prog 101 #[v] w0 fun e w' => e = .returned (.int .i64 s) ∧ Drew w0 w' from hs ▸ apSum_any v a b c d w0 hm h0)
  rw [hs] at HSW
  obtain ⟨_, _, e1, _, hcc⟩ := id h
  simp only [Value.slice.injEq] at e1
  obtain ⟨rfl, _, rfl⟩ := e1
  obtain ⟨ad', e2, hcell⟩ := hcc i (by simpa using hi)
  simp only [Option.some.injEq] at e2
  subst e2
  rw [hx] at hcell
  have hiI : (i : Int) < 4 := by omega
  have i0 : (0 : Int) ≤ (i : Int) := by omega
  have ww1 : IntKind.i64.wrap (s - x) = s - x := by rw [IntWalk.i64_left]; exact IntWalk.wrap64_in _ (by omega)
  have ww2 : IntKind.i64.wrap (2 * (s - x)) = 2 * (s - x) := by rw [IntWalk.i64_left]; exact IntWalk.wrap64_in _ (by omega)
  have ww3 : IntKind.i64.wrap (2 * (s - x) - x) = 2 * (s - x) - x := by rw [IntWalk.i64_left]; exact IntWalk.wrap64_in _ (by omega)
  clear h hm hx hs hcc
  go_enter Try.func66, Try.ntmps66
  go_wp2_with fail
  refine (l1OwnH_any ad 4 cap [a, b, c, d] _ rfl (by omega) H.out).mono ?_
  rintro e w2 ⟨v2, rfl, ho2, hL2⟩
  obtain ⟨a2, c2, rfl, hkc, _, hxl, hcs⟩ := ownsRow_shape ho2.1
  obtain ⟨g, rfl, hc2⟩ := hcs i (by simpa using hi)
  have hfr := ho2.1.frozenAt i
  have hgl := (ho2.1.lt g rfl).1
  have HO2 := hid ho2
  have HL2 := hid hL2
  have H2 := hid (H.out.later hL2)
  replace hcell := hL2.cell hcell
  have hat : ([a, b, c, d].map (Value.int .i64))[i]? = some (.int .i64 x) := by
    rw [← HX.out]
    have h4 : i = 0 ∨ i = 1 ∨ i = 2 ∨ i = 3 := by omega
    rcases h4 with rfl | rfl | rfl | rfl <;> simp
  rw [hat] at hc2
  clear hat
  clear hcs hL2 ho2 hxl
  go_wp2_with fail
  go_region_with (first | (go_at_call 101; refine (HSM.out _ _ (H2.out.later (Later.drew _))).mono ?_; rintro e w3 ⟨rfl, nd, rfl⟩))
  all_goals
    have HO3 := hid ((HO2.out.later (Later.drewN w2 (1 + nd))).storeAt i (2 * (s - x) - x))
    have HL3 := hid (show Later w ((w2.drewN (1 + nd)).setCell ⟨g, i, none⟩ (.int .i64 (2 * (s - x) - x))) from (HL2.out.trans (Later.drewN w2 (1 + nd))).setCell hgl _)
    generalize (w2.drewN (1 + nd)).setCell ⟨g, i, none⟩ (.int .i64 (2 * (s - x) - x)) = w4 at HO3 HL3 ⊢
    clear hcell hc2 hfr
    go_wp2_with fail
    go_ret
    refine ⟨_, rfl, ?_, HL3.out⟩
    have e : swL [a, b, c, d] i = [a, b, c, d].set i (2 * (s - x) - x) := by unfold swL; rw [HSW.out]
    rw [e]
    exact ⟨HO3.out.1, fun b hb => (HO3.out.1.lt b hb).2⟩


theorem MadeInts.cells {w : World} {zs : List Int} {e : Ending} {w' : World} (h : MadeInts w zs e w') (i : Nat) (hi : i < zs.length) :
    ∃ g c, e = .returned (.slice (some ⟨g, 0, none⟩) zs.length c) ∧ w'.cell? ⟨g, i, none⟩ = some (.int .i64 (zs.getD i 0)) ∧ Later w w' := by
  obtain ⟨v, rfl, ho, hL⟩ := h
  obtain ⟨a, c, rfl, _, _, _, hcs⟩ := ownsRow_shape ho.1
  obtain ⟨g, rfl, hc⟩ := hcs i hi
  refine ⟨g, c, rfl, ?_, hL⟩
  rw [hc]; simp [hi]
theorem swL_at (zs : List Int) (i : Nat) (hi : i < zs.length) : (swL zs i).getD i 0 = swN zs i := by simp [swL, hi]
theorem swN_md {a b c d : Int} (h : Md a b c d) (i : Nat) (hi : i < 4) : -200000000 ≤ swN [a, b, c, d] i ∧ swN [a, b, c, d] i ≤ 200000000 := by
  obtain ⟨a1, a2, b1, b2, c1, c2, d1, d2⟩ := h
  obtain ⟨e0, e1, e2, e3⟩ := swN4 a b c d
  have h4 : i = 0 ∨ i = 1 ∨ i = 2 ∨ i = 3 := by omega
  rcases h4 with rfl | rfl | rfl | rfl
  · rw [e0]; omega
  · rw [e1]; omega
  · rw [e2]; omega
  · rw [e3]; omega
set_option maxRecDepth 20000 in
set_option maxHeartbeats 2000000 in
theorem apDown_any (v : Value) (a b c d : Int) (w : World) (hm : Md a b c d) (h : Ints w v [a, b, c, d]) :
    Calls Try.prog 55 #[v] w fun e w' => e = .returned (.int .i64 (downIx [a, b, c, d])) ∧ Later w w' := by
  obtain ⟨ad, cap, rfl, _⟩ := h.four
  have H := hid h
  have HM := hid hm
  have HSWP := hid (fun (i : Nat) (w0 : World) (hi : i < 4) (h0 : Ints w0 (.slice (some ad) 4 cap) [a, b, c, d]) => (apSwap_any _ a b c d i w0 hi hm h0).mono (fun e w' hh => hh.cells i (by rw [swL_len]; exact hi)))
  have HB := hid (fun (i : Nat) (hi : i < 4) => swN_md hm i hi)
  have HG := hid (fun (i : Nat) (hi : i < 4) => hm.getD i hi)
  have hc : ∀ i, i < 4 → w.cell? (ad.add i) = some (.int .i64 ([a, b, c, d].getD i 0)) := by
    intro i hi
    obtain ⟨_, _, e1, _, hcc⟩ := id h
    simp only [Value.slice.injEq] at e1
    obtain ⟨rfl, _, rfl⟩ := e1
    obtain ⟨ad', e2, hcell⟩ := hcc i (by simpa using hi)
    simp only [Option.some.injEq] at e2
    subst e2
    exact hcell
  have HC := hid hc
  have HSL := hid (fun i => swL_len [a, b, c, d] i)
  have HSA := hid (fun (i : Nat) (hi : i < 4) => swL_at [a, b, c, d] i hi)
  have HGL := hid (fun k => gTo_lt [a, b, c, d] k)
  have HGI := hid (show gIx [a, b, c, d] = gTo [a, b, c, d] 4 from rfl)
  obtain ⟨zs, hz⟩ : ∃ zs, [a, b, c, d] = zs := ⟨_, rfl⟩
  have HZL := hid (show zs.length = 4 by rw [← hz]; rfl)
  rw [hz] at H HSWP HB HG HC HSL HSA HGL HGI ⊢
  clear h hm hc hz
  go_enter Try.func55, Try.ntmps55
  go_wp2_with fail
  go_loop [3, 8] (fun b i => ∃ k : Nat, k ≤ 4 ∧ i = .int .i64 k ∧ b = .int .i64 (gTo zs k : Nat)) (fun _ i => 4 - (intOf i).toNat)
  case atStart => exact ⟨0, Nat.zero_le _, rfl, rfl⟩
  case round =>
    obtain ⟨k, hk, rfl, rfl⟩ := hrel
    have hg4 : gTo zs k < 4 := by
      by_cases h0 : k = 0
      · subst h0; simp [gTo]
      · have := HGL.out k (by omega); omega
    obtain ⟨g, hg⟩ : ∃ g, gTo zs k = g := ⟨_, rfl⟩
    have HGE := hid hg
    rw [hg] at hg4 ⊢
    have hcg := HC.out g hg4
    have hgI : (g : Int) < 4 := by omega
    have hg0 : (0 : Int) ≤ (g : Int) := by omega
    obtain ⟨y, hy⟩ : ∃ y, zs.getD g 0 = y := ⟨_, rfl⟩
    have HY := hid hy
    rw [hy] at hcg
    by_cases hlt : k < 4
    · have hck := HC.out k hlt
      obtain ⟨x, hx⟩ : ∃ x, zs.getD k 0 = x := ⟨_, rfl⟩
      have HX := hid hx
      rw [hx] at hck
      have hkI : (k : Int) < 4 := by omega
      clear hg hx hy
      by_cases hgt : y < x
      · have HN := hid (show gTo zs (k + 1) = k by unfold gTo; rw [HGE.out, HY.out, HX.out, if_pos hgt])
        go_wp2_with fail
        go_round
        case rel => exact ⟨k + 1, hlt, by go_num, by rw [HN.out]⟩
        case measure => simp [intOf]; omega
      · have HN := hid (show gTo zs (k + 1) = g by unfold gTo; rw [HGE.out, HY.out, HX.out, if_neg hgt])
        go_wp2_with fail
        go_round
        case rel => exact ⟨k + 1, hlt, by go_num, by rw [HN.out]⟩
        case measure => simp [intOf]; omega
    · obtain rfl : k = 4 := by omega
      have HGX := hid (show gIx zs = g from HGI.out.trans HGE.out)
      have hgl : g < (4 : Nat) := hg4
      obtain ⟨n, hn⟩ : ∃ n, swN zs g = n := ⟨_, rfl⟩
      have HN := hid hn
      have HSP := hid (fun (w0 : World) (h0 : Later w w0) => show Calls Try.prog 66 #[.slice (some ad) 4 cap, .int .i64 g] w0 fun e w' => ∃ gg c, e = .returned (.slice (some ⟨gg, 0, none⟩) 4 c) ∧ w'.cell? ⟨gg, g, none⟩ = some (.int .i64 n) ∧ Later w0 w' from (HSWP.out g w0 hg4 (H.out.later h0)).mono (fun e w' hh => by
        obtain ⟨gg, c, he, hcl, hL⟩ := hh
        rw [HSL.out, HZL.out] at he
        rw [HSA.out g hg4, hn] at hcl
        exact ⟨gg, c, he, hcl, hL⟩))
      clear hg hy hn hlt
      go_wp2_with fail
      go_region_with (first | (go_at_call 66; refine (HSP.out _ (Later.drew _)).mono ?_; rintro e w3 ⟨gg, c3, rfl, hc3, hL3⟩; have hcg3 := hL3.cell ((Later.drew _).cell hcg); have HL3 := hid ((Later.drew _).trans hL3); clear hL3))
      all_goals
        by_cases hle : y ≤ n
        · have HR := hid (show downIx zs = -1 by unfold downIx lastQ; rw [HGX.out, HY.out, HN.out, decide_eq_true hle]; rfl)
          go_wp2_with fail
          go_ret
          exact ⟨ret_int HR.out.symm, HL3.out⟩
        · have HR := hid (show downIx zs = (g : Int) by unfold downIx lastQ; rw [HGX.out, HY.out, HN.out, decide_eq_false hle]; simp)
          go_wp2_with fail
          go_ret
          exact ⟨ret_int HR.out.symm, HL3.out⟩
theorem apDown_as (v : Value) (a b c d : Int) (o : Int) (w : World) (hm : Md a b c d) (ho : downIx [a, b, c, d] = o) (h : Ints w v [a, b, c, d]) :
    Calls Try.prog 55 #[v] w fun e w' => e = .returned (.int .i64 o) ∧ Later w w' := by
  subst ho; exact apDown_any v a b c d w hm h


theorem QD.md {a b c d : Int} (h : QD a b c d) : Md a b c d := by
  obtain ⟨⟨a1, a2⟩, ⟨b1, b2⟩, ⟨c1, c2⟩, ⟨d1, d2⟩, _, _⟩ := h
  exact ⟨by omega, by omega, by omega, by omega, by omega, by omega, by omega, by omega⟩
theorem within03 {i : Int} : within 0 3 i = true ↔ 0 ≤ i ∧ i ≤ 3 := by simp [within]
theorem downIx_last {zs : List Int} (h : lastQ zs = true) : downIx zs = -1 := by unfold downIx; rw [if_pos h]
theorem downIx_next {zs : List Int} (h : lastQ zs = false) : downIx zs = (gIx zs : Int) := by unfold downIx; rw [h]; simp
theorem apDown_zs (v : Value) (zs : List Int) (w : World) (hg : apB zs = true) (h : Ints w v zs) :
    Calls Try.prog 55 #[v] w fun e w' => e = .returned (.int .i64 (downIx zs)) ∧ Later w w' := by
  obtain ⟨a, b, c, d, rfl, hq⟩ := apB_four hg
  exact apDown_any v a b c d w hq.md h
theorem apSwap_zs (v : Value) (zs : List Int) (i : Nat) (w : World) (hi : i < 4) (hg : apB zs = true) (h : Ints w v zs) :
    Calls Try.prog 66 #[v, .int .i64 i] w fun e w' => MadeInts w (swL zs i) e w' := by
  obtain ⟨a, b, c, d, rfl, hq⟩ := apB_four hg
  exact apSwap_any v a b c d i w hi hq.md h
set_option maxRecDepth 20000 in
set_option maxHeartbeats 2000000 in
theorem specSwapAt_any (v : Value) (zs : List Int) (i : Int) (w : World) (h : Ints w v zs) :
    Calls Try.prog 23 #[v, .int .i64 i] w fun e w' => IntsAns w (swapAns zs i) e w' := by
  obtain ⟨p, cap, rfl, hl, _⟩ := id h
  have H := hid h
  clear h
  cases hg : apB zs
  · have HG := hid hg
    have HA := hid (show swapAns zs i = none by unfold swapAns; rw [hg]; simp)
    clear hg
    go_enter Try.func23, Try.ntmps23
    go_wp2_with fail
    refine (apGood_as _ zs _ _ HG.out H.out).mono ?_
    rintro e w' ⟨rfl, rfl⟩
    go_wp2_with fail
    go_ret2
    rw [HA.out]
    exact ⟨_, rfl, OwnInts.nothing0 _ _ _, Later.refl _⟩
  · have HG := hid hg
    cases hi : within 0 3 i
    · have HI := hid hi
      have HA := hid (show swapAns zs i = none by unfold swapAns; rw [hi]; simp)
      clear hg hi
      go_enter Try.func23, Try.ntmps23
      go_wp2_with fail
      refine (apGood_as _ zs _ _ HG.out H.out).mono ?_
      rintro e w' ⟨rfl, rfl⟩
      go_wp2_with fail
      refine (l1In_as _ _ _ _ _ HI.out).mono ?_
      rintro e w' ⟨rfl, rfl⟩
      go_wp2_with fail
      go_ret2
      rw [HA.out]
      exact ⟨_, rfl, OwnInts.nothing0 _ _ _, Later.refl _⟩
    · have HI := hid hi
      have hi2 := within03.1 hi
      obtain ⟨j, rfl⟩ : ∃ j : Nat, i = (j : Int) := ⟨i.toNat, by omega⟩
      have HJ := hid (show j < 4 by omega)
      have HGS := hid (swL_good hg j HJ.out)
      have HA1 := hid (fun (hx : swN zs j ≤ 100000) => show swapAns zs j = some (swL zs j) by unfold swapAns; rw [if_pos ⟨hg, hi, by simpa using hx⟩]; simp)
      have HA2 := hid (fun (hx : 100000 < swN zs j) => show swapAns zs j = none by unfold swapAns; rw [if_neg]; rintro ⟨_, _, h3⟩; simp at h3; omega)
      obtain ⟨a, b, c, d, rfl, hq⟩ := apB_four hg
      have HQ := hid hq.md
      clear hg hi hi2 hq
      go_enter Try.func23, Try.ntmps23
      go_wp2_with fail
      refine (apGood_as _ _ _ _ HG.out H.out).mono ?_
      rintro e w' ⟨rfl, rfl⟩
      go_wp2_with fail
      refine (l1In_as _ _ _ _ _ HI.out).mono ?_
      rintro e w' ⟨rfl, rfl⟩
      go_wp2_with fail
      refine (apSwap_any _ a b c d j _ HJ.out HQ.out H.out).mono ?_
      rintro e w2 ⟨v2, rfl, ho, hL⟩
      have HO := hid ho
      have HL := hid hL
      clear ho hL
      by_cases hx : swN [a, b, c, d] j ≤ 100000
      · have HGS2 := hid (show apB (swL [a, b, c, d] j) = true by rw [HGS.out, decide_eq_true hx])
        have HA := hid (HA1.out hx)
        clear hx
        go_wp2_with fail
        refine (apGood_as _ _ _ _ HGS2.out HO.out.ints).mono ?_
        rintro e w' ⟨rfl, rfl⟩
        go_wp2_with fail
        go_ret2
        rw [HA.out]
        exact ⟨_, rfl, HO.out, HL.out⟩
      · have HGS2 := hid (show apB (swL [a, b, c, d] j) = false by rw [HGS.out, decide_eq_false hx])
        have HA := hid (HA2.out (by omega))
        clear hx
        go_wp2_with fail
        refine (apGood_as _ _ _ _ HGS2.out HO.out.ints).mono ?_
        rintro e w' ⟨rfl, rfl⟩
        go_wp2_with fail
        go_ret2
        rw [HA.out]
        exact ⟨_, rfl, OwnInts.nothing0 _ _ _, HL.out⟩
set_option maxRecDepth 20000 in
set_option maxHeartbeats 2000000 in
theorem specIsRootQ_any (v : Value) (zs : List Int) (w : World) (h : Ints w v zs) :
    Calls Try.prog 26 #[v] w fun e w' => BoolAns w (isRootAns zs) e w' := by
  obtain ⟨p, cap, rfl, hl, _⟩ := id h
  have H := hid h
  clear h
  cases hg : apB zs
  · have HG := hid hg
    have HA := hid (show isRootAns zs = none by unfold isRootAns; rw [hg]; simp)
    clear hg
    go_enter Try.func26, Try.ntmps26
    go_wp2_with fail
    refine (apGood_as _ zs _ _ HG.out H.out).mono ?_
    rintro e w' ⟨rfl, rfl⟩
    go_wp2_with fail
    go_ret2
    exact ⟨by rw [HA.out]; rfl, Later.refl _⟩
  · have HG := hid hg
    have HA := hid (show isRootAns zs = some (lastQ zs) by unfold isRootAns; rw [if_pos hg])
    obtain ⟨a, b, c, d, rfl, hq⟩ := apB_four hg
    have HQ := hid hq.md
    cases hlq : lastQ [a, b, c, d]
    · have HD := hid (downIx_next hlq)
      have HLQ := hid hlq
      have hgi : (0 : Int) ≤ (gIx [a, b, c, d] : Int) := by omega
      obtain ⟨g, hgg⟩ : ∃ g, gIx [a, b, c, d] = g := ⟨_, rfl⟩
      rw [hgg] at HD
      clear hg hq hlq hgi hgg
      go_enter Try.func26, Try.ntmps26
      go_wp2_with fail
      refine (apGood_as _ _ _ _ HG.out H.out).mono ?_
      rintro e w' ⟨rfl, rfl⟩
      go_wp2_with fail
      refine (apDown_as _ a b c d _ _ HQ.out HD.out H.out).mono ?_
      rintro e w2 ⟨rfl, hL⟩
      have HL := hid hL
      have hn0 : ¬ (g : Int) < 0 := by omega
      clear hL
      go_wp2_with fail
      go_ret2
      exact ⟨by rw [HA.out, HLQ.out]; simp, HL.out⟩
    · have HD := hid (downIx_last hlq)
      have HLQ := hid hlq
      clear hg hq hlq
      go_enter Try.func26, Try.ntmps26
      go_wp2_with fail
      refine (apGood_as _ _ _ _ HG.out H.out).mono ?_
      rintro e w' ⟨rfl, rfl⟩
      go_wp2_with fail
      refine (apDown_as _ a b c d _ _ HQ.out HD.out H.out).mono ?_
      rintro e w2 ⟨rfl, hL⟩
      have HL := hid hL
      clear hL
      go_wp2_with fail
      go_ret2
      exact ⟨by rw [HA.out, HLQ.out]; simp, HL.out⟩
set_option maxRecDepth 20000 in
set_option maxHeartbeats 2000000 in
theorem specDownSwap_any (v : Value) (zs : List Int) (w : World) (h : Ints w v zs) :
    Calls Try.prog 15 #[v] w fun e w' => NumAns w (downSwapAns zs) e w' := by
  obtain ⟨p, cap, rfl, hl, _⟩ := id h
  have H := hid h
  clear h
  cases hg : apB zs
  · have HG := hid hg
    have HA := hid (show downSwapAns zs = none by unfold downSwapAns; rw [hg]; simp)
    clear hg
    go_enter Try.func15, Try.ntmps15
    go_wp2_with fail
    refine (apGood_as _ zs _ _ HG.out H.out).mono ?_
    rintro e w' ⟨rfl, rfl⟩
    go_wp2_with fail
    go_ret2
    exact ⟨by rw [HA.out]; rfl, Later.refl _⟩
  · have HG := hid hg
    obtain ⟨a, b, c, d, rfl, hq⟩ := apB_four hg
    have HQ := hid hq.md
    cases hlq : lastQ [a, b, c, d]
    · have HD := hid (downIx_next hlq)
      have HA := hid (show downSwapAns [a, b, c, d] = some (gIx [a, b, c, d] : Int) by unfold downSwapAns; rw [if_pos ⟨hg, hlq⟩])
      obtain ⟨g, hgg⟩ : ∃ g, gIx [a, b, c, d] = g := ⟨_, rfl⟩
      rw [hgg] at HD HA
      clear hg hq hlq hgg
      go_enter Try.func15, Try.ntmps15
      go_wp2_with fail
      refine (apGood_as _ _ _ _ HG.out H.out).mono ?_
      rintro e w' ⟨rfl, rfl⟩
      go_wp2_with fail
      refine (apDown_as _ a b c d _ _ HQ.out HD.out H.out).mono ?_
      rintro e w2 ⟨rfl, hL⟩
      have HL := hid hL
      have H2 := hid (H.out.later hL)
      have hn0 : ¬ (g : Int) < 0 := by omega
      clear hL
      go_wp2_with fail
      refine (apDown_as _ a b c d _ _ HQ.out HD.out H2.out).mono ?_
      rintro e w3 ⟨rfl, hL3⟩
      have HL3 := hid (HL.out.trans hL3)
      clear hL3
      go_wp2_with fail
      go_ret2
      exact ⟨by rw [HA.out]; simp, HL3.out⟩
    · have HD := hid (downIx_last hlq)
      have HA := hid (show downSwapAns [a, b, c, d] = none by unfold downSwapAns; rw [hlq]; simp)
      clear hg hq hlq
      go_enter Try.func15, Try.ntmps15
      go_wp2_with fail
      refine (apGood_as _ _ _ _ HG.out H.out).mono ?_
      rintro e w' ⟨rfl, rfl⟩
      go_wp2_with fail
      refine (apDown_as _ a b c d _ _ HQ.out HD.out H.out).mono ?_
      rintro e w2 ⟨rfl, hL⟩
      have HL := hid hL
      clear hL
      go_wp2_with fail
      go_ret2
      exact ⟨by rw [HA.out]; rfl, HL.out⟩
end Go.Proofs.Ytoaopmafokoaoab
