/- The triple of a word, in the program. -/
import Derived.Test.YtmmapfdmdliifabDoorOwS
namespace Go.Proofs.YtmmapfdmdliifabDoor
open Go.RowKit

def BoxT (w : World) (B : Nat) (a b c : Int) : Prop :=
  (w.cell? ⟨B, 0, none⟩ = some (.int .i64 a) ∧ w.cell? ⟨B, 1, none⟩ = some (.int .i64 b) ∧ w.cell? ⟨B, 2, none⟩ = some (.int .i64 c)) ∧
  w.frozen? ⟨B, 0, none⟩ = false ∧ w.frozen? ⟨B, 1, none⟩ = false ∧ w.frozen? ⟨B, 2, none⟩ = false
theorem BoxT.later {w w' : World} {B : Nat} {a b c : Int} (h : BoxT w B a b c) (k : Later w w') : BoxT w' B a b c :=
  ⟨⟨k.cell h.1.1, k.cell h.1.2.1, k.cell h.1.2.2⟩, k.frozen h.1.1 h.2.1, k.frozen h.1.2.1 h.2.2.1, k.frozen h.1.2.2 h.2.2.2⟩
theorem BoxT.keep {w w' : World} {B : Nat} {a b c : Int} (h : BoxT w B a b c) (k : w'.heap[B]? = w.heap[B]?) : BoxT w' B a b c :=
  ⟨⟨cell_keep h.1.1 k, cell_keep h.1.2.1 k, cell_keep h.1.2.2 k⟩, (World.frozen?_of_block k).trans h.2.1, (World.frozen?_of_block k).trans h.2.2.1, (World.frozen?_of_block k).trans h.2.2.2⟩
theorem BoxT.lt {w : World} {B : Nat} {a b c : Int} (h : BoxT w B a b c) : B < w.heap.size := World.block_lt_of_cell? w ⟨B, 0, none⟩ h.1.1
theorem BoxT.set {w : World} {B : Nat} {a b c : Int} (h : BoxT w B a b c) (p q r : Int) :
    BoxT (((w.setCell ⟨B, 0, none⟩ (.int .i64 p)).setCell ⟨B, 1, none⟩ (.int .i64 q)).setCell ⟨B, 2, none⟩ (.int .i64 r)) B p q r :=
  ⟨⟨(World.cell?_setCell_other _ _ _ _ (by simp)).trans ((World.cell?_setCell_other _ _ _ _ (by simp)).trans (World.cell?_setCell_same _ _ _ h.1.1)),
    (World.cell?_setCell_other _ _ _ _ (by simp)).trans (World.cell?_setCell_same _ _ _ ((World.cell?_setCell_other _ _ _ _ (by simp)).trans h.1.2.1)),
    World.cell?_setCell_same _ _ _ ((World.cell?_setCell_other _ _ _ _ (by simp)).trans ((World.cell?_setCell_other _ _ _ _ (by simp)).trans h.1.2.2))⟩,
   by rw [World.frozen?_setCell, World.frozen?_setCell, World.frozen?_setCell]; exact h.2.1, by rw [World.frozen?_setCell, World.frozen?_setCell, World.frozen?_setCell]; exact h.2.2.1, by rw [World.frozen?_setCell, World.frozen?_setCell, World.frozen?_setCell]; exact h.2.2.2⟩
set_option maxRecDepth 20000 in
set_option maxHeartbeats 4000000 in
theorem implMarkovOfWord_any (s : ByteArray) (w : World) (hs : s.size ≤ 1048576) : Calls Tryd.prog 11 #[.string s] w fun e w' => IntsAns w (ofWordAns s.data.toList) e w' := by
  have HC := hid (fun b w hb => isMarkovWord_as s b w hs hb)
  cases hb : wordLR s.data.toList
  · have HA := hid (show ofWordAns s.data.toList = none by unfold ofWordAns; rw [if_neg (by simp [hb])])
    have HB := hid hb
    rw [HA.out]
    clear hb
    go_enter Tryd.func11, Tryd.ntmps11
    go_wp2_with fail
    refine (HC.out false _ HB.out).mono ?_
    rintro e w1 ⟨rfl, hL⟩
    go_wp2_with fail
    go_ret2
    exact ⟨_, rfl, OwnInts.nothing _ _ _, hL⟩
  · have HA := hid (show ofWordAns s.data.toList = walkW s.data.toList 1 2 5 by unfold ofWordAns; rw [if_pos hb])
    have hlr := ((wordLR_iff _).1 hb)
    have hs40 : s.size ≤ 40 := by rw [size_list]; exact hlr.1
    have HAB := hid (fun k (hk : k < s.size) => (isLR_iff _).1 (List.all_eq_true.1 hlr.2 (s[k]'hk) (List.mem_of_getElem? (byte_at s k hk))))
    have HW := hid (fun k (hk : k < s.size) x y z => walkW_drop s.data.toList k (s[k]'hk) x y z (byte_at s k hk))
    have HN := hid (fun x y z => show walkW (s.data.toList.drop s.size) x y z = some [x, y, z] by rw [List.drop_of_length_le (by rw [← size_list]; exact Nat.le_refl _)]; rfl)
    have HB := hid hb
    obtain ⟨R, hR⟩ : ∃ R, walkW s.data.toList 1 2 5 = R := ⟨_, rfl⟩
    have HR0 := hid (show walkW (s.data.toList.drop 0) 1 2 5 = R by simpa using hR)
    rw [hR] at HA
    rw [HA.out]
    clear hb hlr hR
    go_enter Tryd.func11, Tryd.ntmps11
    go_wp2_with fail
    refine (HC.out true _ HB.out).mono ?_
    rintro e w1 ⟨rfl, hL1⟩
    have HL1 := hid hL1
    clear hL1
    go_wp2_with fail
    have hB : BoxT (w1.alloc (.cells #[.int .i64 1, .int .i64 2, .int .i64 5] 40)) w1.heap.size 1 2 5 := by
      refine ⟨⟨?_, ?_, ?_⟩, ?_, ?_, ?_⟩ <;> simp [go_sem]
    have HBX := hid hB
    have HLA := hid (HL1.out.trans (Later.alloc w1 (.cells #[.int .i64 1, .int .i64 2, .int .i64 5] 40)))
    have HWB := hid HL1.out.size
    obtain ⟨B, hBe⟩ : ∃ B, w1.heap.size = B := ⟨_, rfl⟩
    rw [hBe] at HBX HWB ⊢
    generalize w1.alloc (.cells #[.int .i64 1, .int .i64 2, .int .i64 5] 40) = w0 at HBX HLA ⊢
    clear hB hBe HL1
    go_loopw [12] (fun i wr => ∃ (k : Nat) (x y z : Int), k ≤ s.size ∧ i = .int .i64 k ∧ Tri3 x y z ∧ BoxT wr B x y z ∧ walkW (s.data.toList.drop k) x y z = R ∧ Later w wr) (fun i _ => s.size - (intOf i).toNat)
    case atStart => exact ⟨0, 1, 2, 5, Nat.zero_le _, rfl, ⟨by omega, by omega, by omega, by omega⟩, HBX.out, HR0.out, HLA.out⟩
    case round =>
      clear HBX HLA HR0
      obtain ⟨k, x, y, z, hk, rfl, hT, hbx, hw, hL⟩ := hrel
      have HT := hid hT
      have HBX := hid hbx
      have HWk := hid hw
      have HLr := hid hL
      obtain ⟨⟨c0, c1, c2⟩, f0, f1, f2⟩ := hbx
      clear hT hw hL
      by_cases hlt : k < s.size
      · have hltI : (k : Int) < (s.size : Int) := by omega
        have hab := HAB.out k hlt
        have HWS := hid ((HW.out k hlt x y z).symm.trans HWk.out)
        have HML := hid (moveL_nOf (c := s[k]'hlt) HT.out)
        have HNX := hid (fun (h : nOf (s[k]'hlt) x y z ≤ 1000000000) => HT.out.next (c := s[k]'hlt) (by omega))
        have HGE := hid (nOf_ge (c := s[k]'hlt) HT.out)
        have HIX := hid (fun w => indexOf_any (s[k]'hlt) w)
        have HMV := hid (fun (i : Nat) (w' : World) (hi : i = 0 ∨ i = 1 ∨ i = 2) => moved_any x y z i hi w' (by have := HT.out; unfold Tri3 at this; constructor <;> omega) (by have := HT.out; unfold Tri3 at this; constructor <;> omega) (by have := HT.out; unfold Tri3 at this; constructor <;> omega))
        obtain ⟨c, hc⟩ : ∃ c, (s[k]'hlt) = c := ⟨_, rfl⟩
        rw [hc] at hab HWS HML HNX HGE HIX
        obtain ⟨j, hj⟩ : ∃ j : Nat, (if c = 108 then 1 else 0 : Nat) = j := ⟨_, rfl⟩
        have hj012 : j = 0 ∨ j = 1 ∨ j = 2 := by rw [← hj]; split <;> omega
        rw [hj] at HML HIX
        have HMJ := hid (fun w' => HMV.out j w' hj012)
        clear hj hab HMV
        go_wp2_with fail
        go_region_with (first | (go_at_call 26; refine (HIX.out _).mono ?_; rintro e w9 ⟨rfl, rfl⟩) | (go_at_call 25; refine (HMJ.out _).mono ?_; rintro e w4 ⟨p, q, r, hpqr, rfl, hL4⟩; have HB4 := hid (HBX.out.later ((Later.drew wr).trans hL4)); obtain ⟨⟨d0, d1, d2⟩, g0, g1, g2⟩ := HB4.out; have HL4 := hid (HLr.out.trans ((Later.drew wr).trans hL4)); have HP := hid (HML.out.symm.trans hpqr); clear hL4 hpqr))
        all_goals
          clear c0 c1 c2 f0 f1 f2
          have HB5 := hid (HB4.out.set p q r)
          have HL5 := hid (show Later w (((w4.setCell ⟨B, 0, none⟩ (.int .i64 p)).setCell ⟨B, 1, none⟩ (.int .i64 q)).setCell ⟨B, 2, none⟩ (.int .i64 r)) from Below.setCell (Below.setCell (Below.setCell HL4.out HWB.out _) HWB.out _) HWB.out _)
          generalize (((w4.setCell ⟨B, 0, none⟩ (.int .i64 p)).setCell ⟨B, 1, none⟩ (.int .i64 q)).setCell ⟨B, 2, none⟩ (.int .i64 r)) = w5 at HB5 HL5 ⊢
          have hpq := HP.out
          simp only [List.cons.injEq, and_true] at hpq
          obtain ⟨rfl, rfl, hr⟩ := hpq
          rw [hr] at HWS HNX HGE
          clear hr HP HB4 d0 d1 d2 g0 g1 g2 HML
          obtain ⟨⟨d0, d1, d2⟩, _, _, _⟩ := HB5.out
          have HHI := hid (show high3 (fOf c x y) z r = r by
            have h1 := high3_spec (fOf c x y) z r
            have h2 := HGE.out
            have h3 : fOf c x y ≤ z := by have := HT.out; unfold Tri3 at this; unfold fOf; split <;> omega
            omega)
          go_wp2_with fail
          refine (greatest_any _ _ _ _).mono ?_
          rintro e w6 ⟨rfl, hL6⟩
          have HB6 := hid (HB5.out.later hL6)
          have HL6 := hid (HL5.out.trans hL6)
          rw [HHI.out]
          clear hL6 d0 d1 d2
          by_cases hbig : 1000000000 < r
          · have HRN := hid (show R = none by rw [← HWS.out, if_pos hbig])
            have hd : decide (1000000000 < r) = true := decide_eq_true hbig
            clear hbig
            go_wp2_with fail
            go_ret2
            rw [HRN.out]
            exact ⟨_, rfl, OwnInts.nothing _ _ _, HL6.out⟩
          · have HWN := hid (HWS.out.symm.trans (if_neg hbig))
            have hd : decide (1000000000 < r) = false := decide_eq_false hbig
            have HTN := hid (HNX.out (by omega))
            clear hbig
            go_wp2_with fail
            go_roundw
            case rel => exact ⟨k + 1, _, _, _, hlt, by go_num, HTN.out, HB6.out, HWN.out.symm, HL6.out⟩
            case measure => simp [intOf]; omega
      · have hke : k = s.size := by omega
        subst hke
        have HRS := hid (HWk.out.symm.trans (HN.out x y z))
        go_wp2_with fail
        refine (list_any x y z _).mono ?_
        rintro e w7 ⟨v7, rfl, ho, hL⟩
        have HO7 := hid (ho.wide HLr.out.size (Nat.le_refl _))
        have HL7 := hid (HLr.out.trans hL)
        clear hL ho
        go_wp2_with fail
        go_ret2
        rw [HRS.out]
        exact ⟨_, rfl, HO7.out, HL7.out⟩
end Go.Proofs.YtmmapfdmdliifabDoor
