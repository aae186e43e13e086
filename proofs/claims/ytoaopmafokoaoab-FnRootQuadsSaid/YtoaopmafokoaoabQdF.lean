/- Four curvatures: FollowSwaps, SwapAt, ScaleOf (the model). -/
import Derived.Test.YtoaopmafokoaoabQdTUV
import Derived.Test.YtoaopmafokoaoabQdGR
import Derived.Deep.DeepCutAuto
namespace Go.Proofs.Ytoaopmafokoaoab
open Go.RowKit

theorem follow_drop (zs word : List Int) (k : Nat) (hk : k < word.length) : followL zs (word.drop k) = if swN zs (word.getD k 0).toNat ≤ 100000 then followL (swL zs (word.getD k 0).toNat) (word.drop (k + 1)) else none := by
  rw [List.drop_eq_getElem_cons hk, followL, getD_at word k hk]
theorem word_at {word : List Int} (h : word.all (within 0 3) = true) (k : Nat) (hk : k < word.length) : 0 ≤ word.getD k 0 ∧ word.getD k 0 ≤ 3 := by
  rw [getD_at word k hk]
  exact within03.1 (List.all_eq_true.1 h _ (List.getElem_mem hk))
theorem follow_len : ∀ (word zs : List Int), zs.length = 4 → ∀ r, followL zs word = some r → r.length = 4 := by
  intro word
  induction word with
  | nil => intro zs h r hr; simp [followL] at hr; subst hr; exact h
  | cons i is ih =>
    intro zs h r hr
    unfold followL at hr
    split at hr
    · exact ih _ (by rw [swL_len]; exact h) r hr
    · cases hr
theorem followAns_one (zs : List Int) (i : Int) : followAns zs [i] = swapAns zs i := by
  unfold followAns swapAns
  by_cases h1 : apB zs = true ∧ within 0 3 i = true
  · obtain ⟨h1, h2⟩ := h1
    rw [if_pos ⟨h1, by simp, by simp [h2]⟩]
    by_cases h3 : swN zs i.toNat ≤ 100000
    · rw [if_pos ⟨h1, h2, h3⟩, followL, if_pos h3, followL]
    · rw [if_neg (fun h => h3 h.2.2), followL, if_neg h3]
  · rw [if_neg (fun h => h1 ⟨h.1, by simpa using h.2.2⟩), if_neg (fun h => h1 ⟨h.1, h.2.1⟩)]
set_option maxRecDepth 20000 in
set_option maxHeartbeats 2000000 in
theorem specFollowSwaps_any (v u : Value) (zs word : List Int) (w : World) (h : Ints w v zs) (hu : Ints w u word) :
    Calls Try.prog 37 #[v, u] w fun e w' => IntsAns w (followAns zs word) e w' := by
  obtain ⟨p, cap, rfl, hl, _⟩ := id h
  obtain ⟨p2, cap2, rfl, hl2, hcw⟩ := id hu
  have H := hid h
  have HU := hid hu
  have HCW := hid hcw
  clear h hu hcw
  cases hg : apB zs
  · have HG := hid hg
    have HA := hid (show followAns zs word = none by unfold followAns; rw [hg]; simp)
    clear hg
    go_enter Try.func37, Try.ntmps37
    go_wp2_with fail
    refine (apGood_as _ zs _ _ HG.out H.out).mono ?_
    rintro e w' ⟨rfl, rfl⟩
    go_wp2_with fail
    go_ret2
    rw [HA.out]
    exact ⟨_, rfl, OwnInts.nothing0 _ _ _, Later.refl _⟩
  · have HG := hid hg
    by_cases h200 : (200 : Int) < (word.length : Int)
    · have HA := hid (show followAns zs word = none by unfold followAns; rw [if_neg (by omega)])
      clear hg
      go_enter Try.func37, Try.ntmps37
      go_wp2_with fail
      refine (apGood_as _ zs _ _ HG.out H.out).mono ?_
      rintro e w' ⟨rfl, rfl⟩
      go_wp2_with fail
      go_ret2
      rw [HA.out]
      exact ⟨_, rfl, OwnInts.nothing0 _ _ _, Later.refl _⟩
    · cases hi : word.all (within 0 3)
      · have HI := hid hi
        have HA := hid (show followAns zs word = none by unfold followAns; rw [hi]; simp)
        clear hg hi
        go_enter Try.func37, Try.ntmps37
        go_wp2_with fail
        refine (apGood_as _ zs _ _ HG.out H.out).mono ?_
        rintro e w' ⟨rfl, rfl⟩
        go_wp2_with fail
        refine (l1All_as _ word _ _ _ _ HI.out HU.out).mono ?_
        rintro e w' ⟨rfl, rfl⟩
        go_wp2_with fail
        go_ret2
        rw [HA.out]
        exact ⟨_, rfl, OwnInts.nothing0 _ _ _, Later.refl _⟩
      · have HI := hid hi
        obtain ⟨F, hF⟩ : ∃ F, followL zs word = F := ⟨_, rfl⟩
        have HF := hid hF
        have HA := hid (show followAns zs word = F by unfold followAns; rw [if_pos ⟨hg, by omega, hi⟩, hF])
        obtain ⟨a, b, c, d, hz, _⟩ := apB_four hg
        have HZ := hid hz
        clear hg hi hF hz
        go_enter Try.func37, Try.ntmps37
        go_wp2_with fail
        refine (apGood_as _ zs _ _ HG.out H.out).mono ?_
        rintro e w' ⟨rfl, rfl⟩
        go_wp2_with fail
        refine (l1All_as _ word _ _ _ _ HI.out HU.out).mono ?_
        rintro e w' ⟨rfl, rfl⟩
        go_wp2_with fail
        have h4 : zs.length = 4 := by rw [HZ.out]; rfl
        obtain ⟨ad, rfl⟩ : ∃ ad, p = some ad := by
          obtain ⟨_, _, e1, _, hc⟩ := H.out
          simp only [Value.slice.injEq] at e1
          obtain ⟨rfl, _, rfl⟩ := e1
          obtain ⟨ad, e2, _⟩ := hc 0 (by omega)
          exact ⟨ad, e2⟩
        refine (l1OwnH_any ad zs.length cap zs _ rfl (by omega) H.out).mono ?_
        rintro e w2 ⟨v2, rfl, ho2, hL2⟩
        have HO2 := hid ho2
        have HL2 := hid hL2
        clear ho2 hL2 h4
        go_wp2_with fail
        go_loopw [6, 26] (fun o i wr => ∃ (k : Nat) (cs : List Int), k ≤ word.length ∧ i = .int .i64 k ∧ apB cs = true ∧ followL cs (word.drop k) = F ∧ OwnInts w.heap.size wr.heap.size wr o cs ∧ Later w wr) (fun _ i _ => word.length - (intOf i).toNat)
        case atStart => exact ⟨0, zs, Nat.zero_le _, rfl, HG.out, by rw [List.drop_zero]; exact HF.out, HO2.out, HL2.out⟩
        case round =>
          clear HO2 HL2
          obtain ⟨k, cs, hk, rfl, hgc, hfc, hO, hL⟩ := hrel
          have HGC := hid hgc
          have HFC := hid hfc
          have HO := hid hO
          have HL := hid hL
          obtain ⟨x, y, z, t, rfl, hqc⟩ := apB_four hgc
          have HM := hid hqc.md
          obtain ⟨oa, oc, rfl, _⟩ := hO.shape
          clear hgc hfc hO hqc
          by_cases hlt : k < word.length
          · obtain ⟨wad, rfl, hcell⟩ := HCW.out k hlt
            have hi3 := word_at HI.out k hlt
            have hfd := follow_drop [x, y, z, t] word k hlt
            rw [HFC.out] at hfd
            obtain ⟨i, hi⟩ : ∃ i, word.getD k 0 = i := ⟨_, rfl⟩
            rw [hi] at hcell hi3 hfd
            replace hcell := hL.cell hcell
            obtain ⟨j, rfl⟩ : ∃ j : Nat, i = (j : Int) := ⟨i.toNat, by omega⟩
            rw [Int.toNat_natCast] at hfd
            have HJ := hid (show j < 4 by omega)
            have HGS := hid (swL_good HGC.out j HJ.out)
            have HFD := hid hfd
            clear hi hi3 hfd hL
            go_wp2_with fail
            refine (apSwap_any _ x y z t j _ HJ.out HM.out HO.out.ints).mono ?_
            rintro e w3 ⟨v3, rfl, ho3, hL3⟩
            have HO3 := hid ho3
            have HL3 := hid (HL.out.trans hL3)
            have HLL := hid (show w.heap.size ≤ wr.heap.size from HL.out.size)
            clear ho3 hL3
            by_cases hx : swN [x, y, z, t] j ≤ 100000
            · have HGS2 := hid (show apB (swL [x, y, z, t] j) = true by rw [HGS.out, decide_eq_true hx])
              have HF2 := hid (show followL (swL [x, y, z, t] j) (word.drop (k + 1)) = F by rw [HFD.out, if_pos hx])
              clear hx
              go_wp2_with fail
              refine (apGood_as _ _ _ _ HGS2.out HO3.out.ints).mono ?_
              rintro e w' ⟨rfl, rfl⟩
              go_wp2_with fail
              go_roundw
              case rel => exact ⟨k + 1, swL [x, y, z, t] j, hlt, by go_num, HGS2.out, HF2.out, HO3.out.wide HLL.out (Nat.le_refl _), HL3.out⟩
              case measure => simp [intOf]; omega
            · have HGS2 := hid (show apB (swL [x, y, z, t] j) = false by rw [HGS.out, decide_eq_false hx])
              have HF2 := hid (show F = none by rw [HFD.out, if_neg hx])
              clear hx
              go_wp2_with fail
              refine (apGood_as _ _ _ _ HGS2.out HO3.out.ints).mono ?_
              rintro e w' ⟨rfl, rfl⟩
              go_wp2_with fail
              go_ret2
              rw [HA.out, HF2.out]
              exact ⟨_, rfl, OwnInts.nothing0 _ _ _, HL3.out⟩
          · have HF2 := hid (show F = some [x, y, z, t] by rw [← HFC.out, List.drop_eq_nil_of_le (by omega)]; rfl)
            go_wp2_with fail
            go_ret2
            rw [HA.out, HF2.out]
            exact ⟨_, rfl, HO.out, HL.out⟩
set_option maxRecDepth 20000 in
set_option maxHeartbeats 2000000 in
theorem apScale_any (v : Value) (a b c d : Int) (w : World) (hq : QD a b c d) (h : Ints w v [a, b, c, d]) :
    Calls Try.prog 113 #[v] w fun e w' => e = .returned (.int .i64 (gcdL [a, b, c, d])) ∧ Later w w' := by
  obtain ⟨ad, cap, rfl, k0, k1, k2, k3⟩ := h.four
  have m1 : Mid a := by have := hq.ha; unfold Mid; omega
  have m2 : Mid b := by have := hq.hb; unfold Mid; omega
  have m3 : Mid c := by have := hq.hc; unfold Mid; omega
  have m4 : Mid d := by have := hq.hd; unfold Mid; omega
  have HS := hid (scale_eq a b c d)
  obtain ⟨g1, hg1⟩ : ∃ g, gcdW a b = g := ⟨_, rfl⟩
  obtain ⟨g2, hg2⟩ : ∃ g, gcdW c d = g := ⟨_, rfl⟩
  have HG1 := hid (fun (w0 : World) => show Calls Try.prog 117 #[.int .i64 a, .int .i64 b] w0 fun e w' => e = .returned (.int .i64 g1) ∧ w0 = w' from hg1 ▸ foGcd_any _ a b w0 (Nat.lt_succ_self _) m1 m2)
  have HG2 := hid (fun (w0 : World) => show Calls Try.prog 117 #[.int .i64 c, .int .i64 d] w0 fun e w' => e = .returned (.int .i64 g2) ∧ w0 = w' from hg2 ▸ foGcd_any _ c d w0 (Nat.lt_succ_self _) m3 m4)
  rw [hg1, hg2] at HS
  have HG3 := hid (fun (w0 : World) => show Calls Try.prog 117 #[.int .i64 g1, .int .i64 g2] w0 fun e w' => e = .returned (.int .i64 (gcdL [a, b, c, d])) ∧ w0 = w' from HS.out ▸ foGcd_any _ g1 g2 w0 (Nat.lt_succ_self _) (hg1 ▸ gcdW_mid a b m1 m2) (hg2 ▸ gcdW_mid c d m3 m4))
  obtain ⟨G, hG⟩ : ∃ G, gcdL [a, b, c, d] = G := ⟨_, rfl⟩
  rw [hG] at HG3 ⊢
  clear h hq m1 m2 m3 m4 hg1 hg2 hG HS
  go_enter Try.func113, Try.ntmps113
  go_upto_region 1 with fail
  go_quiet (first | (go_at_call 117; first | with_reducible exact Calls.quiet_of_same ((HG1.out _).mono fun _ _ ⟨a, b⟩ => ⟨a, b.symm⟩) | with_reducible exact Calls.quiet_of_same ((HG2.out _).mono fun _ _ ⟨a, b⟩ => ⟨a, b.symm⟩) | with_reducible exact Calls.quiet_of_same ((HG3.out _).mono fun _ _ ⟨a, b⟩ => ⟨a, b.symm⟩)))
  go_wp2_with fail
  go_ret
  exact ⟨rfl, Later.drewN _ _⟩
end Go.Proofs.Ytoaopmafokoaoab
