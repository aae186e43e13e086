/- Equations of Hurwitz: the way down (the model). -/
import Derived.Test.YtdahhcigphhfdadHuV
import Derived.Test.YtdahhcigphhfdadRowsKI
namespace Go.Proofs.Ytdahhcigphhfdad
open Go.RowKit

set_option maxRecDepth 20000 in
set_option maxHeartbeats 4000000 in
theorem huDown_any (zs : List Int) (a b : Int) (v : Value) (w : World) (hS : Sol zs a b) (h : IntsC w v zs) :
    Calls Try.prog 43 #[v, .int .i64 a] w fun e w' => MadeRows w (wayL a zs) e w' := by
  obtain ⟨i0, hi, hz0, hz1, hz2⟩ := info_parts Try.infoInts
  have hlen := hS.hl
  have hsb := hS.sum_bd
  obtain ⟨ad, c, rfl, hnc⟩ := h.addr (by omega)
  have H := hid h.1
  have HS := hid hS
  have HLEN := hid hlen
  have hsz : (sumL zs).toNat ≤ 400000 := by omega
  clear h hS hnc hsb
  go_enter Try.func43, Try.ntmps43
  go_wp2_with fail
  refine (l1OwnH_any ad zs.length c zs _ rfl (by have := HLEN.out; omega) H.out).mono ?_
  rintro e w1 ⟨v1, rfl, ho, hL⟩
  obtain ⟨a1, c1, rfl, _⟩ := ho.shape
  have HI1 := hid (ho.later (Later.alloc w1 (.cells #[.slice a1 zs.length c1] 24))).intsC
  have HO := hid (OwnRows.oneH hL.size ho)
  have HL := hid (hL.trans (Later.alloc w1 (.cells #[.slice a1 zs.length c1] 24)))
  have hs : (w1.alloc (.cells #[.slice a1 zs.length c1] 24)).heap.size = w1.heap.size + 1 := by simp
  rw [← hs] at HO
  clear ho hL hs
  go_wp2_with fail
  generalize w1.alloc (.cells #[.slice a1 zs.length c1] 24) = w2 at HO HL HI1 ⊢
  go_loopw [5, 6] (fun t o wr => ∃ (ys : List Int) (L : List (List Int)), Sol ys a b ∧ IntsC wr t ys ∧ OwnRows w.heap.size wr.heap.size wr o L ∧ L ++ belowL a ys = wayL a zs ∧ L.length + (sumL ys).toNat ≤ 1 + (sumL zs).toNat ∧ Later w wr)
    (fun _ o _ => (sumL zs).toNat + 2 - lenOfH o)
  case atStart => exact ⟨zs, [zs], HS.out, HI1.out, HO.out, rfl, by simp, HL.out⟩
  case round =>
    clear HO HL HI1
    obtain ⟨ys, L, hSy, hI, hO, hR, hle, hL⟩ := hrel
    have HI := hid hI
    have HO := hid hO
    have HR := hid hR
    have HL := hid hL
    have HSy := hid hSy
    obtain ⟨pt, ct, rfl, _⟩ := hI.1
    obtain ⟨o1, o2, rfl, hoc⟩ := hO.shape
    have hyb := hSy.sum_bd
    clear hI hO hR hL hoc
    cases hl : lastB a ys
    · have HLB := hid hl
      have hn := hSy.next hl
      have HJ := hid hn.1
      have HNS := hid hn.2.1
      have HNL := hid hn.2.2
      have HST := hid (belowL_step hSy hl)
      have h0 : 0 < ys.length := by have := hSy.hl; omega
      have H0 := hid h0
      clear hl hn hSy h0
      go_wp2_with fail
      refine (huLast_any _ ys a b _ HSy.out HI.out).mono ?_
      rintro e w3 ⟨rfl, hL3⟩
      rw [HLB.out]
      have HI3 := hid (HI.out.later hL3)
      have HO3 := hid (HO.out.later hL3)
      have HL3 := hid (HL.out.trans hL3)
      have HWS := hid hL3.size
      clear hL3
      go_wp2_with fail
      refine (huJump_any ys a b 0 _ _ H0.out HSy.out HI3.out).mono ?_
      rintro e w4 ⟨v4, rfl, ho4, hL4⟩
      rw [HJ.out] at ho4 ⊢
      replace ho4 : OwnInts w3.heap.size w4.heap.size w4 v4 (nextD a ys) := ho4
      obtain ⟨a4, c4, rfl, _⟩ := ho4.shape
      obtain ⟨us, hul, hus, hub, hin, hdis⟩ := (HO3.out.later hL4).partsH
      have HO4 := hid ho4
      have HL4 := hid (HL3.out.trans hL4)
      have HIN := hid hin
      have HD := hid hdis
      have hl1 : us.length ≤ 400001 := by omega
      have hwl := hid (show w.heap.size ≤ w3.heap.size from HL3.out.size)
      have hown4 := hid (hus.alloc (.cells #[.slice a4 (nextD a ys).length c4] 24))
      have HWL := hid (show w.heap.size ≤ wr.heap.size from HL.out.size)
      clear ho4 hL4 hus hin hdis hub
      go_wp2_with (at_builtin; refine wpList_append_lies _ (by rfl) _ _ _ (by rfl) w.heap.size 24 i0 (.slice none 0 0) 1 24 Try.underlying36 hi hz0 hz1 hz2 rfl (by omega) _ us.length us (by rfl) (by exact hown4.out) ⟨w4.heap.size, 0, none⟩ 1 1 [.slice a4 (nextD a ys).length c4] (by rfl) (by rfl) (World.news_of_block (cs := #[.slice a4 (nextD a ys).length c4]) (t := 24) (fr := (0, 0)) (heap_alloc_new w4 _)) (by simp [Value.oneCell']) (by omega) (by unfold maxLen; omega) (by omega) (by have := HL4.out.size; simp; omega) (w4.heap.size + 1) (by simp) ?_)
      intro g cap1 w7 hown7 hgrow hat hglt
      have hA := Later.alloc w4 (.cells #[.slice a4 (nextD a ys).length c4] 24)
      have HP := hid (OwnRows.pushed hul hown4.out (fun i hi => ((HIN.out i hi).later hA)) HD.out (((HO4.out.wide HWS.out (Nat.le_refl _)).later hA).wide (Nat.le_refl _) (by simp)) HWL.out (by rw [hul]; exact hown7) hgrow)
      have HL7 := hid (show Later w w7 from (HL4.out.trans hA).grown hgrow (by have := HL4.out.size; simp; omega) (fun b hb => (hown4.out.lt b hb).1))
      have HI7 := hid (OwnInts.keptH (HO4.out.later hA) hown4.out hgrow).intsC
      clear hown7 hgrow hat hA
      go_wp2_with fail
      go_roundw
      case rel => exact ⟨nextD a ys, L ++ [nextD a ys], HNS.out, HI7.out, by simpa using HP.out, by rw [List.append_assoc, List.singleton_append, ← HST.out]; exact HR.out, by have := HNL.out; simp; omega, HL7.out⟩
      case measure => simp [lenOfH]; have := HNL.out; omega
    · have HLB := hid hl
      have HE := hid (show L = wayL a zs by have := HR.out; rw [belowL_last hl, List.append_nil] at this; exact this)
      clear hl
      go_wp2_with fail
      refine (huLast_any _ ys a b _ HSy.out HI.out).mono ?_
      rintro e w3 ⟨rfl, hL3⟩
      rw [HLB.out]
      have HO3 := hid (((HO.out.later hL3)).wide (Nat.le_refl _) hL3.size)
      have HL3 := hid (HL.out.trans hL3)
      clear hL3
      go_wp2_with fail
      go_ret
      exact ⟨_, rfl, by rw [← HE.out]; exact HO3.out, HL3.out⟩

def wayAns (zs : List Int) (a b : Int) : Option (List (List Int)) := if (givenB a b && solB zs a b) = true then some (wayL a zs) else none
def fundLAns (zs : List Int) (a b : Int) : Option (List Int) := if (givenB a b && solB zs a b) = true then some ((wayL a zs).getD ((wayL a zs).length - 1) []) else none
set_option maxRecDepth 20000 in
set_option maxHeartbeats 2000000 in
theorem specWayDown_any (v : Value) (zs : List Int) (a b : Int) (w : World) (h : IntsC w v zs) :
    Calls Try.prog 18 #[v, .int .i64 a, .int .i64 b] w fun e w' => RowsAns w (wayAns zs a b) e w' := by
  obtain ⟨p, cap, rfl, hl, _⟩ := id h.1
  have H := hid h
  clear h
  cases hg : givenB a b
  · have HG := hid hg
    have HA := hid (show wayAns zs a b = none by unfold wayAns; rw [hg]; simp)
    clear hg
    go_enter Try.func18, Try.ntmps18
    go_wp2_with fail
    refine (huGiven_as a b _ _ HG.out).mono ?_
    rintro e w' ⟨rfl, rfl⟩
    go_wp2_with fail
    go_ret2
    rw [HA.out]
    exact ⟨_, rfl, OwnRows.noneH _ _ _, Later.refl _⟩
  · have HG := hid hg
    cases hs : solB zs a b
    · have HS := hid hs
      have HA := hid (show wayAns zs a b = none by unfold wayAns; rw [hg, hs]; simp)
      clear hg hs
      go_enter Try.func18, Try.ntmps18
      go_wp2_with fail
      refine (huGiven_as a b _ _ HG.out).mono ?_
      rintro e w' ⟨rfl, rfl⟩
      go_wp2_with fail
      refine (huGood_as _ zs a b _ _ HG.out HS.out H.out.1).mono ?_
      rintro e w' ⟨rfl, hL⟩
      have HL := hid hL
      clear hL
      go_wp2_with fail
      go_ret2
      rw [HA.out]
      exact ⟨_, rfl, OwnRows.noneH _ _ _, HL.out⟩
    · have HSol := hid (Sol.of hg hs)
      have HS := hid hs
      have HA := hid (show wayAns zs a b = some (wayL a zs) by unfold wayAns; rw [if_pos (by rw [hg, hs]; rfl)])
      clear hg hs
      go_enter Try.func18, Try.ntmps18
      go_wp2_with fail
      refine (huGiven_as a b _ _ HG.out).mono ?_
      rintro e w' ⟨rfl, rfl⟩
      go_wp2_with fail
      refine (huGood_as _ zs a b _ _ HG.out HS.out H.out.1).mono ?_
      rintro e w' ⟨rfl, hL⟩
      have HL := hid hL
      clear hL
      go_wp2_with fail
      refine (huDown_any zs a b _ _ HSol.out (H.out.later HL.out)).mono ?_
      rintro e w2 ⟨v2, rfl, ho, hL⟩
      obtain ⟨a2, c2, rfl, _⟩ := ho.shape
      have HO := hid (ho.wide HL.out.size (Nat.le_refl _))
      have HL2 := hid (HL.out.trans hL)
      clear ho hL
      go_wp2_with fail
      go_ret2
      rw [HA.out]
      exact ⟨_, rfl, HO.out, HL2.out⟩
end Go.Proofs.Ytdahhcigphhfdad
