/- Equations of Hurwitz: ClimbHurwitz (the model). -/
import Derived.Test.YtdahhcigphhfdadHuV
namespace Go.Proofs.Ytdahhcigphhfdad
open Go.RowKit

def climbL (a : Int) : List Int → List Int → Option (List Int)
  | zs, [] => some zs
  | zs, i :: is => match jumpL a zs i.toNat with
    | none => none
    | some ys => climbL a ys is
def wordB (word : List Int) (n : Nat) : Bool := decide (word.length ≤ 40) && word.all (within 0 ((n : Int) - 1))
def climbAns (zs : List Int) (a b : Int) (word : List Int) : Option (List Int) := if (givenB a b && solB zs a b) = true ∧ wordB word zs.length = true then climbL a zs word else none
theorem climbL_none {a : Int} {zs : List Int} {i : Int} {is : List Int} (h : jumpL a zs i.toNat = none) : climbL a zs (i :: is) = none := by simp [climbL, h]
theorem climbL_some {a : Int} {zs ys : List Int} {i : Int} {is : List Int} (h : jumpL a zs i.toNat = some ys) : climbL a zs (i :: is) = climbL a ys is := by simp [climbL, h]
theorem all_at {p : Int → Bool} {zs : List Int} (h : zs.all p = true) (k : Nat) (hk : k < zs.length) : p zs[k] = true := List.all_eq_true.1 h _ (List.getElem_mem hk)
theorem drop_consW (zs : List Int) (k : Nat) (h : k < zs.length) : zs.drop k = zs[k] :: zs.drop (k + 1) := List.drop_eq_getElem_cons h

set_option maxRecDepth 20000 in
set_option maxHeartbeats 4000000 in
theorem specClimbHurwitz_any (v u : Value) (zs : List Int) (a b : Int) (word : List Int) (w : World) (h : IntsC w v zs) (hu : Ints w u word) :
    Calls Try.prog 26 #[v, .int .i64 a, .int .i64 b, u] w fun e w' => IntsAns w (climbAns zs a b word) e w' := by
  obtain ⟨p, cap, rfl, hl, _⟩ := id h.1
  obtain ⟨p2, cap2, rfl, hl2, hcw⟩ := id hu
  have H := hid h
  have HU := hid hu
  have HCW := hid hcw
  clear h hu hcw
  cases hg : givenB a b
  · have HG := hid hg
    have HA := hid (show climbAns zs a b word = none by unfold climbAns; rw [hg]; simp)
    clear hg
    go_enter Try.func26, Try.ntmps26
    go_wp2_with fail
    refine (huGiven_as a b _ _ HG.out).mono ?_
    rintro e w' ⟨rfl, rfl⟩
    go_wp2_with fail
    go_ret2
    rw [HA.out]
    exact ⟨_, rfl, OwnInts.nothing0 _ _ _, Later.refl _⟩
  · have HG := hid hg
    cases hs : solB zs a b
    · have HS := hid hs
      have HA := hid (show climbAns zs a b word = none by unfold climbAns; rw [hg, hs]; simp)
      clear hg hs
      go_enter Try.func26, Try.ntmps26
      go_wp2_with fail
      refine (huGiven_as a b _ _ HG.out).mono ?_
      rintro e w' ⟨rfl, rfl⟩
      go_wp2_with fail
      refine (huGood_as _ zs a b _ _ HG.out HS.out H.out.1).mono ?_
      rintro e w' ⟨rfl, hL⟩
      have HL := hid hL
      clear hL
      go_wp2_with fail
      go_ret2
      rw [HA.out]
      exact ⟨_, rfl, OwnInts.nothing0 _ _ _, HL.out⟩
    · have hSol := Sol.of hg hs
      have HSol := hid hSol
      have HS := hid hs
      have hnb : 1 ≤ (zs.length : Int) ∧ (zs.length : Int) ≤ 4 := by have := hSol.hl; omega
      obtain ⟨hn1, hn2⟩ := hnb
      by_cases h40 : 40 < word.length
      · have h40I : (40 : Int) < (word.length : Int) := by omega
        have hdI : decide ((40 : Int) < (word.length : Int)) = true := decide_eq_true h40I
        have HA := hid (show climbAns zs a b word = none by unfold climbAns wordB; rw [decide_eq_false (show ¬ word.length ≤ 40 by omega)]; simp)
        clear hg hs hSol
        go_enter Try.func26, Try.ntmps26
        go_wp2_with fail
        refine (huGiven_as a b _ _ HG.out).mono ?_
        rintro e w' ⟨rfl, rfl⟩
        go_wp2_with fail
        refine (huGood_as _ zs a b _ _ HG.out HS.out H.out.1).mono ?_
        rintro e w' ⟨rfl, hL⟩
        have HL := hid hL
        clear hL
        go_wp2_with fail
        go_ret2
        rw [HA.out]
        exact ⟨_, rfl, OwnInts.nothing0 _ _ _, HL.out⟩
      · have h40I : ¬ (40 : Int) < (word.length : Int) := by omega
        have hdI : decide ((40 : Int) < (word.length : Int)) = false := decide_eq_false h40I
        cases hin : word.all (within 0 ((zs.length : Int) - 1))
        · have HIN := hid hin
          have HA := hid (show climbAns zs a b word = none by unfold climbAns wordB; rw [hin]; simp)
          clear hg hs hSol hin
          go_enter Try.func26, Try.ntmps26
          go_wp2_with fail
          refine (huGiven_as a b _ _ HG.out).mono ?_
          rintro e w' ⟨rfl, rfl⟩
          go_wp2_with fail
          refine (huGood_as _ zs a b _ _ HG.out HS.out H.out.1).mono ?_
          rintro e w' ⟨rfl, hL⟩
          have HL := hid hL
          clear hL
          go_wp2_with fail
          refine (l1All_as _ word _ _ _ _ HIN.out (HU.out.later HL.out)).mono ?_
          rintro e w' ⟨rfl, rfl⟩
          go_wp2_with fail
          go_ret2
          rw [HA.out]
          exact ⟨_, rfl, OwnInts.nothing0 _ _ _, HL.out⟩
        · have HIN := hid hin
          have HA := hid (show climbAns zs a b word = climbL a zs word by unfold climbAns wordB; rw [if_pos ⟨by rw [hg, hs]; rfl, by rw [hin, decide_eq_true (show word.length ≤ 40 by omega)]; rfl⟩])
          obtain ⟨ad, c, e1, hnc⟩ := H.out.addr (by omega)
          simp only [Value.slice.injEq, true_and] at e1
          obtain ⟨rfl, rfl⟩ := e1
          have HLEN := hid hSol.hl
          clear hg hs hSol hin hnc
          go_enter Try.func26, Try.ntmps26
          go_wp2_with fail
          refine (huGiven_as a b _ _ HG.out).mono ?_
          rintro e w' ⟨rfl, rfl⟩
          go_wp2_with fail
          refine (huGood_as _ zs a b _ _ HG.out HS.out H.out.1).mono ?_
          rintro e w' ⟨rfl, hL⟩
          have HL := hid hL
          clear hL
          go_wp2_with fail
          refine (l1All_as _ word _ _ _ _ HIN.out (HU.out.later HL.out)).mono ?_
          rintro e w' ⟨rfl, rfl⟩
          go_wp2_with fail
          refine (l1OwnH_any ad zs.length _ zs _ rfl (by have := HLEN.out; omega) (H.out.1.later HL.out)).mono ?_
          rintro e w1 ⟨v1, rfl, ho, hL⟩
          have HO := hid (ho.wide HL.out.size (Nat.le_refl _))
          have HL1 := hid (HL.out.trans hL)
          clear ho hL HL
          go_wp2_with fail
          go_loopw [10, 43] (fun o i wr => ∃ (k : Nat) (ys : List Int), k ≤ word.length ∧ i = .int .i64 k ∧ Sol ys a b ∧ ys.length = zs.length ∧ OwnInts w.heap.size wr.heap.size wr o ys ∧ climbL a zs word = climbL a ys (word.drop k) ∧ Later w wr)
            (fun _ i _ => word.length - (intOf i).toNat)
          case atStart => exact ⟨0, zs, Nat.zero_le _, rfl, HSol.out, rfl, HO.out, rfl, HL1.out⟩
          case round =>
            clear HO HL1
            obtain ⟨k, ys, hk, rfl, hSy, hly, hO, hC, hL⟩ := hrel
            have HSy := hid hSy
            have HLY := hid hly
            have HO := hid hO
            have HC := hid hC
            have HL := hid hL
            clear hSy hly hO hC hL
            by_cases hlt : k < word.length
            · obtain ⟨adw, rfl, hcell⟩ := HCW.out k hlt
              simp only [getD_at word k hlt] at hcell
              have hc2 := HL.out.cell hcell
              have hwk := within_idx.1 (all_at HIN.out k hlt)
              have hcs := HC.out
              rw [drop_consW word k hlt] at hcs
              obtain ⟨i, hi⟩ : ∃ i, word[k] = i := ⟨_, rfl⟩
              rw [hi] at hc2 hwk hcs
              obtain ⟨j, rfl⟩ : ∃ j : Nat, i = (j : Int) := ⟨i.toNat, by omega⟩
              have HJ := hid (show j < ys.length by have := HLY.out; omega)
              have HCS := hid hcs
              have ht : ((j : Int)).toNat = j := by omega
              have HT := hid ht
              clear hcell hi hcs ht
              cases hj : jumpL a ys j
              · have HJN := hid hj
                have HN := hid (show climbL a zs word = none by rw [HCS.out]; exact climbL_none (by rw [HT.out]; exact hj))
                clear hj
                go_wp2_with fail
                refine (huJump_any ys a b j _ _ HJ.out HSy.out HO.out.intsC).mono ?_
                rintro e w2 ⟨v2, rfl, ho2, hL2⟩
                rw [HJN.out] at ho2 ⊢
                have HL2 := hid (HL.out.trans hL2)
                clear hL2 ho2
                go_wp2_with fail
                go_ret2
                rw [HA.out, HN.out]
                exact ⟨_, rfl, OwnInts.nothing0 _ _ _, HL2.out⟩
              · rename_i ys2
                have HJN := hid hj
                have HN := hid (show climbL a zs word = climbL a ys2 (word.drop (k + 1)) by rw [HCS.out]; exact climbL_some (by rw [HT.out]; exact hj))
                have HS2 := hid (HSy.out.jump HJ.out hj)
                have HL2y := hid (Sol.jump_len hj)
                clear hj
                go_wp2_with fail
                refine (huJump_any ys a b j _ _ HJ.out HSy.out HO.out.intsC).mono ?_
                rintro e w2 ⟨v2, rfl, ho2, hL2⟩
                rw [HJN.out] at ho2 ⊢
                have HL2 := hid (HL.out.trans hL2)
                have HO2 := hid (show OwnInts w.heap.size w2.heap.size w2 v2 ys2 from ho2.wide HL.out.size (Nat.le_refl _))
                clear hL2 ho2
                go_wp2_with fail
                go_roundw
                case rel => exact ⟨k + 1, ys2, hlt, by go_num, HS2.out, by rw [HL2y.out, HLY.out], HO2.out, HN.out, HL2.out⟩
                case measure => simp [intOf]; omega
            · have HE := hid (show climbL a zs word = some ys by rw [HC.out, List.drop_eq_nil_of_le (by omega)]; rfl)
              go_wp2_with fail
              go_ret2
              rw [HA.out, HE.out]
              exact ⟨_, rfl, HO.out, HL.out⟩
end Go.Proofs.Ytdahhcigphhfdad
