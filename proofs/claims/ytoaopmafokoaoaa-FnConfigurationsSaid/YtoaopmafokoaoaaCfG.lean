/- FollowCircles (the model). -/
import Derived.Test.YtoaopmafokoaoaaCfF
namespace Go.Proofs.Ytoaopmafokoaoaa
open Go.RowKit

theorem wordC_split (zs : List Int) (h : zs.length ≤ 40) : wordC zs = zs.all (within 0 3) := by unfold wordC; rw [decide_eq_true h, Bool.true_and]
set_option maxRecDepth 20000 in
set_option maxHeartbeats 4000000 in
theorem followS_any (v : Value) (L : List Ci4) (u : Value) (zs : List Int) (w : World) (h : Cis w v L) (hz : Ints w u zs) :
    Calls Try.prog 38 #[v, u] w fun e w' => CisAns w (followCAns L zs) e w' := by
  obtain ⟨a, cap, rfl, _, hcap, _⟩ := id h
  obtain ⟨ua, ucap, rfl, hzl, _⟩ := id hz
  have HZ := hid hz
  have H := hid h
  cases h4 : confB L
  · have HF := hid h4
    have HA := hid (show followCAns L zs = none by unfold followCAns; rw [h4]; simp)
    clear h4 h hz
    go_enter Try.func38, Try.ntmps38
    go_wp2_with fail
    refine (ciConfig_as _ L false _ H.out HF.out).mono ?_
    rintro e w2 ⟨rfl, hL⟩
    have HL := hid hL
    clear hL
    go_wp2_with fail
    go_ret2
    exact ⟨_, by rw [HA.out]; rfl, by rw [HA.out]; exact OwnCis.nothing _ _ _, HL.out⟩
  · have HC := hid h4
    have HG := hid (GoodL.of h4)
    by_cases h40 : zs.length ≤ 40
    · have hgt : ¬ (40 : Int) < (zs.length : Int) := by omega
      cases hw : zs.all (within 0 3)
      · have HW := hid hw
        have HA := hid (show followCAns L zs = none by unfold followCAns; rw [wordC_split zs h40, hw]; simp)
        clear h4 h hz hw
        go_enter Try.func38, Try.ntmps38
        go_wp2_with fail
        refine (ciConfig_as _ L true _ H.out HC.out).mono ?_
        rintro e w2 ⟨rfl, hL⟩
        have HL := hid hL
        have HZ2 := hid (HZ.out.later hL)
        clear hL
        go_wp2_with fail
        refine (l1All_as _ zs _ _ _ _ HW.out HZ2.out).mono ?_
        rintro e w3 ⟨rfl, rfl⟩
        go_wp2_with fail
        go_ret2
        exact ⟨_, by rw [HA.out]; rfl, by rw [HA.out]; exact OwnCis.nothing _ _ _, HL.out⟩
      · have HW := hid hw
        have HWC := hid (show wordC zs = true by rw [wordC_split zs h40, hw])
        have HA := hid (show followCAns L zs = followCL L zs by unfold followCAns; rw [if_pos ⟨h4, HWC.out⟩])
        obtain ⟨F, hF⟩ : ∃ F, followCL L zs = F := ⟨_, rfl⟩
        rw [hF] at HA
        have HF := hid hF
        have hlen4 := HG.out.1
        have hl1 : 0 < L.length := by omega
        have hl4 : L.length ≤ 4 := by omega
        obtain ⟨g, rfl, _⟩ := h.at 0 (by omega)
        obtain ⟨i0, hi0, hz0, hz1, hz2⟩ := info_parts Try.infoCi
        clear h4 h hz hw hF hlen4
        go_enter Try.func38, Try.ntmps38
        go_wp2_with fail
        refine (ciConfig_as _ L true _ H.out HC.out).mono ?_
        rintro e w2 ⟨rfl, hL⟩
        have HL := hid hL
        have HZ2 := hid (HZ.out.later hL)
        clear hL
        go_wp2_with fail
        refine (l1All_as _ zs _ _ _ _ HW.out HZ2.out).mono ?_
        rintro e w3 ⟨rfl, rfl⟩
        have hA := Later.alloc w2 (.cells #[] 103)
        have HE := hid (OwnCis.empty w2)
        have HLA := hid (HL.out.trans hA)
        have H3 := hid (H.out.later HLA.out)
        have HWS := hid HL.out.size
        clear hA
        go_wp2_with (at_builtin; refine wpList_append_lies _ (by rfl) _ _ _ (by rfl) w2.heap.size 103 i0 (.agg #[.int .i64 0, .int .i64 0, .int .i64 0, .int .i64 0]) 4 32 Try.underlying44 hi0 hz0 hz1 hz2 rfl (by omega) _ 0 [] (by rfl) (by exact HE.out.1) ⟨g, 0, none⟩ L.length cap (ciCells L) (by rfl) (by rw [ciCells_len]) (by exact H3.out.news) (one_ci L) (by omega) (by unfold maxLen; omega) (by omega) (by simp) (w2.heap.size + 1) (by simp) ?_)
        intro g1 cap1 w4 hown hgrow hat hglt
        have HL4 := hid (show Later w w4 from HLA.out.grown hgrow (by have := HWS.out; simp; omega) (fun b hb => by have := (HE.out.1.lt b hb).1; have := HWS.out; omega))
        have HO4 := hid (show OwnCis w.heap.size w4.heap.size w4 (.slice (some ⟨g1, 0, none⟩) L.length cap1) L from (show OwnCis w2.heap.size w4.heap.size w4 (.slice (some ⟨g1, 0, none⟩) L.length cap1) L from ⟨by simpa using hown, fun b hb => (hown.lt b hb).2⟩).wide HWS.out (Nat.le_refl _))
        clear hown hgrow hat hglt
        go_wp2_with fail
        go_loopw [6, 27] (fun o j wr => ∃ (k : Nat) (Lk : List Ci4), k ≤ zs.length ∧ j = .int .i64 k ∧ GoodL Lk ∧ followCL Lk (zs.drop k) = F ∧ OwnCis w.heap.size wr.heap.size wr o Lk ∧ Later w wr) (fun _ j _ => zs.length - (intOf j).toNat)
        case atStart => exact ⟨0, L, Nat.zero_le _, rfl, HG.out, HF.out, HO4.out, HL4.out⟩
        case round =>
          clear HO4 HL4
          obtain ⟨k, Lk, hk, rfl, hG, hFk, hO, hL⟩ := hrel
          obtain ⟨o1, o2, rfl, _⟩ := hO.shape
          have HGk := hid hG
          have HFk := hid hFk
          have HO := hid hO
          have HL := hid hL
          by_cases hlt : k < zs.length
          · obtain ⟨i, hzi, hi⟩ := wordC_at HWC.out k hlt
            obtain ⟨_, _, e1, _, hcs⟩ := HZ.out.later hL
            simp only [Value.slice.injEq] at e1
            obtain ⟨rfl, _, rfl⟩ := e1
            obtain ⟨ad, rfl, hcell⟩ := hcs k hlt
            rw [hzi] at hcell
            have hst := followL_drop Lk zs k i hlt hzi
            rw [hFk] at hst
            have HST := hid hst
            have HI := hid hi
            have hi4 : (i : Int) < 4 := by omega
            have HSW := hid (fun w0 h0 => ciSwap_any (.slice o1 Lk.length o2) Lk i w0 hi hG.1 hG.bd6 h0)
            unfold MadeCis at HSW
            have HAT := hid (fun (w0 : World) (a0 : Option Addr) (n0 c0 : Nat) (h0 : Cis w0 (.slice a0 n0 c0) (ciSwL Lk i)) => h0.at i (by rw [swL_len4 Lk i HGk.out.1]; exact hi))
            rw [swL_same Lk i HGk.out.1 hi] at HAT
            have hjL : (i : Int) < ((ciSwL Lk i).length : Int) := by rw [swL_len4 Lk i HGk.out.1]; omega
            have HGN := hid (fun hc => HGk.out.step HI.out hc)
            obtain ⟨M, hM⟩ : ∃ M, ciSwL Lk i = M := ⟨_, rfl⟩
            rw [hM] at HST HSW HAT hjL HGN
            obtain ⟨t, ht⟩ : ∃ t, ciNew Lk i = t := ⟨_, rfl⟩
            rw [ht] at HST HAT HGN
            obtain ⟨p, q, r, s⟩ := t
            simp only at HAT
            clear hst hG hFk hO hL hcs hzi hM ht
            go_wp2_with fail
            refine (HSW.out _ HO.out.cis).mono ?_
            rintro e w5 ⟨v5, rfl, hO5, hL5⟩
            obtain ⟨o3, o4, rfl, _⟩ := hO5.shape
            obtain ⟨g5, rfl, c0, c1, c2, c3⟩ := HAT.out _ _ _ _ hO5.cis
            have HL5 := hid (HL.out.trans hL5)
            have HO5 := hid (hO5.wide HL.out.size (Nat.le_refl _))
            clear hO5 hL5 hcell
            go_wp2_with fail
            cases hb : ciB (p, q, r, s)
            · have HBB := hid hb
              have HFN := hid (show F = none by have := HST.out; rw [hb] at this; simpa using this)
              clear hb
              refine (ciGood_as p q r s false _ HBB.out).mono ?_
              rintro e w7 ⟨rfl, hL7⟩
              have HL7 := hid (HL5.out.trans hL7)
              clear hL7
              go_wp2_with fail
              go_ret2
              exact ⟨_, by rw [HA.out, HFN.out]; rfl, by rw [HA.out, HFN.out]; exact OwnCis.nothing _ _ _, HL7.out⟩
            · have HBB := hid hb
              have HFN := hid (show followCL M (zs.drop (k + 1)) = F by have := HST.out; rw [hb] at this; simpa using this.symm)
              have HG2 := hid (HGN.out hb)
              clear hb
              refine (ciGood_as p q r s true _ HBB.out).mono ?_
              rintro e w7 ⟨rfl, hL7⟩
              have HL7 := hid (HL5.out.trans hL7)
              have HO7 := hid ((HO5.out.later hL7).wide (Nat.le_refl _) hL7.size)
              clear hL7
              go_wp2_with fail
              go_roundw
              case rel => exact ⟨k + 1, M, hlt, by go_num, HG2.out, HFN.out, HO7.out, HL7.out⟩
              case measure => simp [intOf]; omega
          · obtain rfl : k = zs.length := by omega
            have HE2 := hid (show F = some Lk by have := HFk.out; rw [List.drop_length] at this; exact this.symm)
            clear hG hFk hO hL
            go_wp2_with fail
            go_ret2
            exact ⟨_, by rw [HA.out, HE2.out]; rfl, by rw [HA.out, HE2.out]; exact HO.out, HL.out⟩
    · have hgt : (40 : Int) < (zs.length : Int) := by omega
      have HA := hid (show followCAns L zs = none by unfold followCAns wordC; rw [decide_eq_false h40]; simp)
      clear h4 h hz h40
      go_enter Try.func38, Try.ntmps38
      go_wp2_with fail
      refine (ciConfig_as _ L true _ H.out HC.out).mono ?_
      rintro e w2 ⟨rfl, hL⟩
      have HL := hid hL
      clear hL
      go_wp2_with fail
      go_ret2
      exact ⟨_, by rw [HA.out]; rfl, by rw [HA.out]; exact OwnCis.nothing _ _ _, HL.out⟩
end Go.Proofs.Ytoaopmafokoaoaa
