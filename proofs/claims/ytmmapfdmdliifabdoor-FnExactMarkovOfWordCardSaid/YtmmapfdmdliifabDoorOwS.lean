/- The triple of a word, in both. -/
import Derived.Test.YtmmapfdmdliifabDoorOwP
import Derived.Deep.RegionHeld3
import Derived.StillTailTactics
namespace Go.Proofs.YtmmapfdmdliifabDoor
open Go.RowKit

set_option maxRecDepth 20000 in
set_option maxHeartbeats 2000000 in
theorem specMarkovOfWord_any (s : ByteArray) (w : World) (_hs : s.size ≤ 1048576) : Calls Tryd.prog 10 #[.string s] w fun e w' => IntsAns w (ofWordAns s.data.toList) e w' := by
  have HC := hid (fun b w hb => mkLetters_as s b w hb)
  cases hb : wordLR s.data.toList
  · have HA := hid (show ofWordAns s.data.toList = none by unfold ofWordAns; rw [if_neg (by simp [hb])])
    have HB := hid hb
    rw [HA.out]
    clear hb
    go_enter Tryd.func10, Tryd.ntmps10
    go_wp2_with fail
    refine (HC.out false _ HB.out).mono ?_
    rintro e w1 ⟨rfl, rfl⟩
    go_wp2_with fail
    go_ret2
    exact ⟨_, rfl, OwnInts.nothing _ _ _, Later.refl _⟩
  · have HA := hid (show ofWordAns s.data.toList = walkW s.data.toList 1 2 5 by unfold ofWordAns; rw [if_pos hb])
    have hlr := ((wordLR_iff _).1 hb)
    have hs40 : s.size ≤ 40 := by rw [size_list]; exact hlr.1
    have HAB := hid (fun k (hk : k < s.size) => (isLR_iff _).1 (List.all_eq_true.1 hlr.2 (s[k]'hk) (List.mem_of_getElem? (byte_at s k hk))))
    have HW := hid (fun k (hk : k < s.size) x y z => walkW_drop s.data.toList k (s[k]'hk) x y z (byte_at s k hk))
    have HN := hid (fun x y z => show walkW (s.data.toList.drop s.size) x y z = some [x, y, z] by rw [List.drop_of_length_le (by rw [← size_list]; exact Nat.le_refl _)]; rfl)
    have HB := hid hb
    have H3 := hid (ownsThree w 1 2 5)
    obtain ⟨R, hR⟩ : ∃ R, walkW s.data.toList 1 2 5 = R := ⟨_, rfl⟩
    have HR0 := hid (show walkW (s.data.toList.drop 0) 1 2 5 = R by simpa using hR)
    rw [hR] at HA
    rw [HA.out]
    have HLA := hid (Later.alloc w (.cells #[.int .i64 1, .int .i64 2, .int .i64 5] 3))
    have HSZ := hid (show (w.alloc (.cells #[.int .i64 1, .int .i64 2, .int .i64 5] 3)).heap.size = w.heap.size + 1 by simp)
    clear hb hlr hR
    go_enter Tryd.func10, Tryd.ntmps10
    go_wp2_with fail
    refine (HC.out true _ HB.out).mono ?_
    rintro e w1 ⟨rfl, rfl⟩
    go_wp2_with fail
    generalize w.alloc (.cells #[.int .i64 1, .int .i64 2, .int .i64 5] 3) = w0 at H3 HLA HSZ ⊢
    go_loopw [4, 5] (fun t i wr => ∃ (k : Nat) (x y z : Int), k ≤ s.size ∧ i = .int .i64 k ∧ Tri3 x y z ∧ OwnInts w.heap.size wr.heap.size wr t [x, y, z] ∧ walkW (s.data.toList.drop k) x y z = R ∧ Later w wr) (fun _ i _ => s.size - (intOf i).toNat)
    case atStart => exact ⟨0, 1, 2, 5, Nat.zero_le _, rfl, ⟨by omega, by omega, by omega, by omega⟩, by rw [HSZ.out]; exact H3.out, HR0.out, HLA.out⟩
    case round =>
      clear H3 HLA HR0 HSZ
      obtain ⟨k, x, y, z, hk, rfl, hT, ho, hw, hL⟩ := hrel
      have HT := hid hT
      have HO := hid ho
      have HWk := hid hw
      have HLr := hid hL
      obtain ⟨g, cap, rfl, c0, c1, c2, _, _⟩ := ho.three
      clear hT ho hw hL
      by_cases hlt : k < s.size
      · have hltI : (k : Int) < (s.size : Int) := by omega
        have hab := HAB.out k hlt
        have HWS := hid ((HW.out k hlt x y z).symm.trans HWk.out)
        have HMO := hid (moveOpt_nOf HT.out hab)
        have HNX := hid (fun h => HT.out.next (c := s[k]'hlt) h)
        have HMV := hid (fun (w' : World) (i : Nat) (hi : i = 0 ∨ i = 1 ∨ i = 2) (hL : Later wr w') => mkMove_any x y z i hi ⟨g, 0, none⟩ cap w' ⟨HT.out.1, by have := HT.out; unfold Tri3 at this; omega⟩ ⟨by have := HT.out; unfold Tri3 at this; omega, by have := HT.out; unfold Tri3 at this; omega⟩ ⟨by have := HT.out; unfold Tri3 at this; omega, HT.out.2.2.2⟩ (hL.cell c0) (hL.cell c1) (hL.cell c2))
        rcases hab with h | h
        · have hn : (s[k]'hlt).toNat = 108 := by rw [h]; rfl
          rw [h] at HWS HMO HNX
          clear c0 c1 c2 h
          go_wp2_with fail
          refine (HMV.out _ 1 (by omega) (Later.refl _)).mono ?_
          rintro e w2 ⟨v2, rfl, ho2, hL2⟩
          rw [show moveOpt x y z 1 = if 1000000000 < nOf 108 x y z then none else some [fOf 108 x y, z, nOf 108 x y z] from HMO.out] at ho2 ⊢
          by_cases hbig : 1000000000 < nOf 108 x y z
          · have HRN := hid (show R = none by rw [← HWS.out, if_pos hbig])
            rw [if_pos hbig] at ho2 ⊢
            have HL2 := hid (HLr.out.trans hL2)
            obtain ⟨a2, c2, rfl, _⟩ := ho2.shape
            clear ho2 hL2
            go_wp2_with fail
            go_ret2
            rw [HRN.out]
            exact ⟨_, rfl, OwnInts.nothing _ _ _, HL2.out⟩
          · have HWN := hid (HWS.out.symm.trans (if_neg hbig))
            rw [if_neg hbig] at ho2 ⊢
            have HO2 := hid (ho2.wide HLr.out.size (Nat.le_refl _))
            have HL2 := hid (HLr.out.trans hL2)
            have HTN := hid (HNX.out (by omega))
            obtain ⟨a2, c2, rfl, _⟩ := ho2.shape
            clear ho2 hL2 hbig
            go_wp2_with fail
            go_roundw
            case rel => exact ⟨k + 1, _, _, _, hlt, by go_num, HTN.out, HO2.out, HWN.out.symm, HL2.out⟩
            case measure => simp [intOf]; omega
        · have hn : (s[k]'hlt).toNat = 114 := by rw [h]; rfl
          rw [h] at HWS HMO HNX
          clear c0 c1 c2 h
          go_wp2_with fail
          refine (HMV.out _ 0 (by omega) (Later.refl _)).mono ?_
          rintro e w2 ⟨v2, rfl, ho2, hL2⟩
          rw [show moveOpt x y z 0 = if 1000000000 < nOf 114 x y z then none else some [fOf 114 x y, z, nOf 114 x y z] from HMO.out] at ho2 ⊢
          by_cases hbig : 1000000000 < nOf 114 x y z
          · have HRN := hid (show R = none by rw [← HWS.out, if_pos hbig])
            rw [if_pos hbig] at ho2 ⊢
            have HL2 := hid (HLr.out.trans hL2)
            obtain ⟨a2, c2, rfl, _⟩ := ho2.shape
            clear ho2 hL2
            go_wp2_with fail
            go_ret2
            rw [HRN.out]
            exact ⟨_, rfl, OwnInts.nothing _ _ _, HL2.out⟩
          · have HWN := hid (HWS.out.symm.trans (if_neg hbig))
            rw [if_neg hbig] at ho2 ⊢
            have HO2 := hid (ho2.wide HLr.out.size (Nat.le_refl _))
            have HL2 := hid (HLr.out.trans hL2)
            have HTN := hid (HNX.out (by omega))
            obtain ⟨a2, c2, rfl, _⟩ := ho2.shape
            clear ho2 hL2 hbig
            go_wp2_with fail
            go_roundw
            case rel => exact ⟨k + 1, _, _, _, hlt, by go_num, HTN.out, HO2.out, HWN.out.symm, HL2.out⟩
            case measure => simp [intOf]; omega
      · have hke : k = s.size := by omega
        subst hke
        have HRS := hid (HWk.out.symm.trans (HN.out x y z))
        go_wp2_with fail
        go_ret2
        rw [HRS.out]
        exact ⟨_, rfl, HO.out, HLr.out⟩
end Go.Proofs.YtmmapfdmdliifabDoor
