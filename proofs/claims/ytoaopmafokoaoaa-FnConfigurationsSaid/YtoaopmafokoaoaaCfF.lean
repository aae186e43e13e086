/- SwapCircle (both), FollowCircles (the model). -/
import Derived.Test.YtoaopmafokoaoaaCfDE
namespace Go.Proofs.Ytoaopmafokoaoaa
open Go.RowKit

def swapAnsC (L : List Ci4) (i : Int) : Option (List Ci4) := followCAns L [i]
theorem swapAnsC_len (L : List Ci4) (i : Int) : ((swapAnsC L i).getD []).length ≤ 1000000000000 := followAns_len L [i]
theorem swapAnsC_no1 {L : List Ci4} {i : Int} (h : confB L = false) : swapAnsC L i = none := by unfold swapAnsC followCAns; rw [h]; simp
theorem swapAnsC_no2 {L : List Ci4} {i : Int} (h : within 0 3 i = false) : swapAnsC L i = none := by
  unfold swapAnsC followCAns wordC
  rw [if_neg]
  rintro ⟨_, h2⟩
  simp [h] at h2
theorem swapAnsC_at {L : List Ci4} {i : Nat} (h : confB L = true) (hi : i < 4) : swapAnsC L (i : Int) = if ciB (ciNew L i) = true then some (ciSwL L i) else none := by
  unfold swapAnsC followCAns wordC
  rw [if_pos ⟨h, by simp [within]; omega⟩]
  unfold followCL
  rw [Int.toNat_natCast]
  rfl
theorem OwnInts.lit1 (w : World) (a : Int) : OwnInts w.heap.size (w.alloc (.cells #[.int .i64 a] 3)).heap.size (w.alloc (.cells #[.int .i64 a] 3)) (.slice (some ⟨w.heap.size, 0, none⟩) 1 1) [a] := by
  have h := World.ownsRow_lit (e := 3) (size := 1) w #[.int .i64 a] 1 (Nat.le_refl _) (by unfold maxLen; omega) (by simp)
  refine ⟨h, fun k hk => ?_⟩
  simp [Value.ownBlock] at hk ⊢
  omega
set_option maxRecDepth 20000 in
theorem swapP_any (v : Value) (L : List Ci4) (i : Int) (w : World) (h : Cis w v L) :
    Calls Try.prog 27 #[v, .int .i64 i] w fun e w' => CisAns w (swapAnsC L i) e w' := by
  obtain ⟨a, cap, rfl, _⟩ := id h
  have hA := Later.alloc w (.cells #[.int .i64 i] 3)
  have HL := hid hA
  have HO := hid (OwnInts.lit1 w i).ints
  have H := hid (h.later hA)
  have HF := hid (fun w0 h0 h1 => followP_any (.slice a L.length cap) L (.slice (some ⟨w.heap.size, 0, none⟩) 1 1) [i] w0 h0 h1)
  have HE := hid (show swapAnsC L i = followCAns L [i] from rfl)
  obtain ⟨o, ho⟩ : ∃ o, followCAns L [i] = o := ⟨_, rfl⟩
  rw [ho] at HF HE
  unfold CisAns at HF
  clear h hA ho
  go_enter Try.func27, Try.ntmps27
  go_wp2_with fail
  generalize w.alloc (.cells #[.int .i64 i] 3) = w1 at HL HO H ⊢
  refine (HF.out _ H.out HO.out).mono ?_
  rintro e w2 ⟨v2, rfl, hO, hL⟩
  have HL2 := hid (HL.out.trans hL)
  have HO2 := hid hO
  clear hL hO
  go_wp2_with fail
  go_ret2
  exact ⟨_, by rw [HE.out]; rfl, by rw [HE.out]; exact HO2.out.wide HL.out.size (Nat.le_refl _), HL2.out⟩
set_option maxRecDepth 20000 in
set_option maxHeartbeats 2000000 in
theorem swapS_any (v : Value) (L : List Ci4) (i : Int) (w : World) (h : Cis w v L) :
    Calls Try.prog 28 #[v, .int .i64 i] w fun e w' => CisAns w (swapAnsC L i) e w' := by
  obtain ⟨a, cap, rfl, _⟩ := id h
  have H := hid h
  clear h
  cases h4 : confB L
  · have HF := hid h4
    have HA := hid (swapAnsC_no1 (i := i) h4)
    clear h4
    go_enter Try.func28, Try.ntmps28
    go_wp2_with fail
    refine (ciConfig_as _ L false _ H.out HF.out).mono ?_
    rintro e w2 ⟨rfl, hL⟩
    have HL := hid hL
    clear hL
    go_wp2_with fail
    go_ret2
    exact ⟨_, by rw [HA.out]; rfl, by rw [HA.out]; exact OwnCis.nothing _ _ _, HL.out⟩
  · have HF := hid h4
    cases hi : within 0 3 i
    · have HI := hid hi
      have HA := hid (swapAnsC_no2 (L := L) hi)
      clear h4 hi
      go_enter Try.func28, Try.ntmps28
      go_wp2_with fail
      refine (ciConfig_as _ L true _ H.out HF.out).mono ?_
      rintro e w2 ⟨rfl, hL⟩
      have HL := hid hL
      clear hL
      go_wp2_with fail
      refine (l1In_as _ _ _ _ _ HI.out).mono ?_
      rintro e w3 ⟨rfl, rfl⟩
      go_wp2_with fail
      go_ret2
      exact ⟨_, by rw [HA.out]; rfl, by rw [HA.out]; exact OwnCis.nothing _ _ _, HL.out⟩
    · have HI := hid hi
      have hi2 : 0 ≤ i ∧ i ≤ 3 := by simpa [within] using hi
      obtain ⟨j, rfl⟩ : ∃ j : Nat, i = (j : Int) := ⟨i.toNat, by omega⟩
      have hj : j < 4 := by omega
      have HJ := hid hj
      have HG := hid (GoodL.of h4)
      have HA := hid (swapAnsC_at h4 hj)
      have HSW := hid (fun w0 h0 => ciSwap_any (.slice a L.length cap) L j w0 hj HG.out.1 HG.out.bd6 h0)
      have HAT := hid (fun (w0 : World) (a0 : Option Addr) (n0 c0 : Nat) (h0 : Cis w0 (.slice a0 n0 c0) (ciSwL L j)) => h0.at j (by rw [swL_len4 L j HG.out.1]; exact hj))
      rw [swL_same L j HG.out.1 hj] at HAT
      have hjL : (j : Int) < ((ciSwL L j).length : Int) := by rw [swL_len4 L j HG.out.1]; omega
      have hjn : j < (ciSwL L j).length := by rw [swL_len4 L j HG.out.1]; omega
      obtain ⟨M, hM⟩ : ∃ M, ciSwL L j = M := ⟨_, rfl⟩
      rw [hM] at HA HSW HAT hjL hjn
      obtain ⟨t, ht⟩ : ∃ t, ciNew L j = t := ⟨_, rfl⟩
      rw [ht] at HA HAT
      obtain ⟨p, q, r, s⟩ := t
      simp only at HAT
      clear h4 hi hj hM ht hi2
      unfold MadeCis at HSW
      cases hb : ciB (p, q, r, s)
      · have HB := hid hb
        have HA2 := hid (show swapAnsC L (j : Int) = none by rw [HA.out, hb]; simp)
        clear hb
        go_enter Try.func28, Try.ntmps28
        go_wp2_with fail
        refine (ciConfig_as _ L true _ H.out HF.out).mono ?_
        rintro e w2 ⟨rfl, hL⟩
        have HL := hid hL
        have H2 := hid (H.out.later hL)
        clear hL
        go_wp2_with fail
        refine (l1In_as _ _ _ _ _ HI.out).mono ?_
        rintro e w3 ⟨rfl, rfl⟩
        go_wp2_with fail
        refine (HSW.out _ H2.out).mono ?_
        rintro e w4 ⟨v4, rfl, hO, hL⟩
        obtain ⟨o1, o2, rfl, _⟩ := hO.shape
        obtain ⟨g, rfl, c0, c1, c2, c3⟩ := HAT.out _ _ _ _ hO.cis
        have HL4 := hid (HL.out.trans hL)
        clear hL hO
        go_wp2_with fail
        refine (ciGood_as p q r s false _ HB.out).mono ?_
        rintro e w5 ⟨rfl, hL5⟩
        have HL5 := hid (HL4.out.trans hL5)
        clear hL5
        go_wp2_with fail
        go_ret2
        exact ⟨_, by rw [HA2.out]; rfl, by rw [HA2.out]; exact OwnCis.nothing _ _ _, HL5.out⟩
      · have HB := hid hb
        have HA2 := hid (show swapAnsC L (j : Int) = some M by rw [HA.out, hb]; simp)
        clear hb
        go_enter Try.func28, Try.ntmps28
        go_wp2_with fail
        refine (ciConfig_as _ L true _ H.out HF.out).mono ?_
        rintro e w2 ⟨rfl, hL⟩
        have HL := hid hL
        have H2 := hid (H.out.later hL)
        clear hL
        go_wp2_with fail
        refine (l1In_as _ _ _ _ _ HI.out).mono ?_
        rintro e w3 ⟨rfl, rfl⟩
        go_wp2_with fail
        refine (HSW.out _ H2.out).mono ?_
        rintro e w4 ⟨v4, rfl, hO, hL⟩
        obtain ⟨o1, o2, rfl, _⟩ := hO.shape
        obtain ⟨g, rfl, c0, c1, c2, c3⟩ := HAT.out _ _ _ _ hO.cis
        have HL4 := hid (HL.out.trans hL)
        have HO4 := hid hO
        clear hL hO
        go_wp2_with fail
        refine (ciGood_as p q r s true _ HB.out).mono ?_
        rintro e w5 ⟨rfl, hL5⟩
        have HL5 := hid (HL4.out.trans hL5)
        have HO5 := hid ((HO4.out.later hL5).wide HL.out.size hL5.size)
        clear hL5
        go_wp2_with fail
        go_ret2
        exact ⟨_, by rw [HA2.out]; rfl, by rw [HA2.out]; exact HO5.out, HL5.out⟩
end Go.Proofs.Ytoaopmafokoaoaa
