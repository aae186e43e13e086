/- Equations of Hurwitz: a jump, JumpAt, ClimbHurwitz (the model). -/
import Derived.Test.YtdahhcigphhfdadHuU
namespace Go.Proofs.Ytdahhcigphhfdad
open Go.RowKit

theorem OwnInts.storeAt {lo hi : Nat} {w : World} {g c : Nat} {zs : List Int} (h : OwnInts lo hi w (.slice (some ⟨g, 0, none⟩) zs.length c) zs) (k : Nat) (x : Int) :
    OwnInts lo hi (w.setCell ⟨g, k, none⟩ (.int .i64 x)) (.slice (some ⟨g, 0, none⟩) zs.length c) (zs.set k x) := by
  have h1 := (h.1.stored k (.int .i64 x)).1
  refine ⟨?_, h.2⟩
  rw [List.length_set, List.map_set]
  exact h1
theorem OwnInts.nothing0 (lo hi : Nat) (w : World) : OwnInts lo hi w (.slice none 0 0) [] := ⟨World.ownsRow_nil _ _ _ _, fun b hb => by simp [Value.ownBlock] at hb⟩

set_option maxRecDepth 20000 in
set_option maxHeartbeats 2000000 in
theorem huJump_any (zs : List Int) (a b : Int) (i : Nat) (v : Value) (w : World) (hi : i < zs.length) (hS : Sol zs a b) (h : IntsC w v zs) :
    Calls Try.prog 35 #[v, .int .i64 a, .int .i64 i] w fun e w' => IntsAns w (jumpL a zs i) e w' := by
  obtain ⟨ad, c, rfl, hnc⟩ := h.addr (by omega)
  have H := hid h.1
  have HS := hid hS
  have HI := hid hi
  have HNC := hid hnc
  have hlen := hS.hl
  have HLEN := hid hlen
  obtain ⟨o, ho⟩ : ∃ o, othL a zs i = o := ⟨_, rfl⟩
  have HO := hid ho
  have hob := hS.oth_bd i hi
  rw [ho] at hob
  obtain ⟨ob1, ob2⟩ := hob
  clear h hS hlen
  cases hw : within 1 100000 o
  · have HW := hid hw
    have HJ := hid (show jumpL a zs i = none by unfold jumpL; rw [ho, hw]; rfl)
    clear hw ho hi hnc
    go_enter Try.func35, Try.ntmps35
    go_wp2_with fail
    refine (huOther_sol zs a b i ad c _ HI.out HNC.out HS.out H.out).mono ?_
    rintro e w1 ⟨rfl, hL⟩
    rw [HO.out]
    have HL := hid hL
    clear hL
    go_wp2_with fail
    refine (l1In_as _ _ _ _ _ HW.out).mono ?_
    rintro e w' ⟨rfl, rfl⟩
    go_wp2_with fail
    go_ret2
    rw [HJ.out]
    exact ⟨_, rfl, OwnInts.nothing0 _ _ _, HL.out⟩
  · have HW := hid hw
    have HJ := hid (show jumpL a zs i = some (sortD (zs.set i o)) by unfold jumpL; rw [ho, hw]; rfl)
    have hiI : (i : Int) < (zs.length : Int) := by omega
    clear hw ho hnc
    go_enter Try.func35, Try.ntmps35
    go_wp2_with fail
    refine (huOther_sol zs a b i ad c _ HI.out HNC.out HS.out H.out).mono ?_
    rintro e w1 ⟨rfl, hL⟩
    rw [HO.out]
    have HL := hid hL
    have H1 := hid (H.out.later hL)
    clear hL
    go_wp2_with fail
    refine (l1In_as _ _ _ _ _ HW.out).mono ?_
    rintro e w' ⟨rfl, rfl⟩
    go_wp2_with fail
    refine (l1OwnH_any ad zs.length c zs _ rfl (by have := HLEN.out; omega) H1.out).mono ?_
    rintro e w2 ⟨v2, rfl, ho2, hL2⟩
    obtain ⟨a2, c2, rfl, hkc, _, hxl, hcs⟩ := ownsRow_shape ho2.1
    obtain ⟨g, rfl, hcell⟩ := hcs i hi
    have hfr := ho2.1.frozenAt i
    have hgl := (ho2.1.lt g rfl).1
    have HO2 := hid ho2
    have HL2 := hid (HL.out.trans hL2)
    have hg2 : w.heap.size ≤ g := Nat.le_trans HL.out.size hgl
    rw [show (zs.map (Value.int .i64))[i]? = some (.int .i64 (zs.getD i 0)) by simp [hi]] at hcell
    clear hcs hL2 ho2 hxl hi
    go_wp2_with fail
    have HO3 := hid (HO2.out.storeAt i o)
    have HL3 := hid (show Later w (w2.setCell ⟨g, i, none⟩ (.int .i64 o)) from HL2.out.setCell hg2 _)
    generalize w2.setCell ⟨g, i, none⟩ (.int .i64 o) = w3 at HO3 HL3 ⊢
    clear hcell hfr
    refine (huSort_any _ (zs.set i o) w3 (by rw [List.length_set]; have := HLEN.out; omega) HO3.out.ints).mono ?_
    rintro e w4 ⟨v4, rfl, ho4, hL4⟩
    have HO4 := hid (ho4.wide HL3.out.size (Nat.le_refl _))
    have HL4 := hid (HL3.out.trans hL4)
    clear ho4 hL4
    go_wp2_with fail
    go_ret2
    rw [HJ.out]
    exact ⟨_, rfl, HO4.out, HL4.out⟩

def jumpAns (zs : List Int) (a b i : Int) : Option (List Int) := if (givenB a b && solB zs a b) = true ∧ within 0 ((zs.length : Int) - 1) i = true then jumpL a zs i.toNat else none
set_option maxRecDepth 20000 in
set_option maxHeartbeats 2000000 in
theorem specJumpAt_any (v : Value) (zs : List Int) (a b i : Int) (w : World) (h : IntsC w v zs) :
    Calls Try.prog 9 #[v, .int .i64 a, .int .i64 b, .int .i64 i] w fun e w' => IntsAns w (jumpAns zs a b i) e w' := by
  obtain ⟨p, cap, rfl, hl, _⟩ := id h.1
  have H := hid h
  clear h
  cases hg : givenB a b
  · have HG := hid hg
    have HA := hid (show jumpAns zs a b i = none by unfold jumpAns; rw [hg]; simp)
    clear hg
    go_enter Try.func9, Try.ntmps9
    go_wp2_with fail
    refine (huGiven_as a b _ _ HG.out).mono ?_
    rintro e w' ⟨rfl, rfl⟩
    go_wp2_with fail
    go_ret2
    rw [HA.out]
    exact ⟨_, rfl, OwnInts.nothing0 _ _ _, Later.refl _⟩
  · have HG := hid hg
    cases hs : solB zs a b
    · have HS := hid hs
      have HA := hid (show jumpAns zs a b i = none by unfold jumpAns; rw [hg, hs]; simp)
      clear hg hs
      go_enter Try.func9, Try.ntmps9
      go_wp2_with fail
      refine (huGiven_as a b _ _ HG.out).mono ?_
      rintro e w' ⟨rfl, rfl⟩
      go_wp2_with fail
      refine (huGood_as _ zs a b _ _ HG.out HS.out H.out.1).mono ?_
      rintro e w' ⟨rfl, hL⟩
      have HL := hid hL
      clear hL
      go_wp2_with fail
      go_ret2
      rw [HA.out]
      exact ⟨_, rfl, OwnInts.nothing0 _ _ _, HL.out⟩
    · have hSol := Sol.of hg hs
      have HSol := hid hSol
      have HS := hid hs
      have hnb : 1 ≤ (zs.length : Int) ∧ (zs.length : Int) ≤ 4 := by have := hSol.hl; omega
      obtain ⟨hn1, hn2⟩ := hnb
      cases hin : within 0 ((zs.length : Int) - 1) i
      · have HIN := hid hin
        have HA := hid (show jumpAns zs a b i = none by unfold jumpAns; rw [hin]; simp)
        clear hg hs hSol hin
        go_enter Try.func9, Try.ntmps9
        go_wp2_with fail
        refine (huGiven_as a b _ _ HG.out).mono ?_
        rintro e w' ⟨rfl, rfl⟩
        go_wp2_with fail
        refine (huGood_as _ zs a b _ _ HG.out HS.out H.out.1).mono ?_
        rintro e w' ⟨rfl, hL⟩
        have HL := hid hL
        clear hL
        go_wp2_with fail
        refine (l1In_as _ _ _ _ _ HIN.out).mono ?_
        rintro e w' ⟨rfl, rfl⟩
        go_wp2_with fail
        go_ret2
        rw [HA.out]
        exact ⟨_, rfl, OwnInts.nothing0 _ _ _, HL.out⟩
      · have HIN := hid hin
        have HA := hid (show jumpAns zs a b i = jumpL a zs i.toNat by unfold jumpAns; rw [if_pos ⟨by rw [hg, hs]; rfl, hin⟩])
        have hib := within_idx.1 hin
        obtain ⟨j, rfl⟩ : ∃ j : Nat, i = (j : Int) := ⟨i.toNat, by omega⟩
        have HJ := hid (show j < zs.length by omega)
        clear hg hs hSol hin hib
        go_enter Try.func9, Try.ntmps9
        go_wp2_with fail
        refine (huGiven_as a b _ _ HG.out).mono ?_
        rintro e w' ⟨rfl, rfl⟩
        go_wp2_with fail
        refine (huGood_as _ zs a b _ _ HG.out HS.out H.out.1).mono ?_
        rintro e w' ⟨rfl, hL⟩
        have HL := hid hL
        clear hL
        go_wp2_with fail
        refine (l1In_as _ _ _ _ _ HIN.out).mono ?_
        rintro e w' ⟨rfl, rfl⟩
        go_wp2_with fail
        refine (huJump_any zs a b j _ _ HJ.out HSol.out (H.out.later HL.out)).mono ?_
        rintro e w2 ⟨v2, rfl, ho, hL⟩
        have HO := hid (ho.wide HL.out.size (Nat.le_refl _))
        have HL2 := hid (HL.out.trans hL)
        clear hL ho
        go_wp2_with fail
        go_ret2
        rw [HA.out]
        exact ⟨_, rfl, HO.out, HL2.out⟩
end Go.Proofs.Ytdahhcigphhfdad
