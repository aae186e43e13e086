/- All turns of letters, and the least one, in the program. -/
import Derived.Test.YtmmapfdmdliifaaDoorTnI
namespace Go.Proofs.YtmmapfdmdliifaaDoor
open Go.RowKit

theorem Tryd.infoStrT : (Tryd.prog.info? 9).map (fun i => (i.zero, i.size, i.bytes)) = some (some (.string ⟨#[]⟩), 1, 16) := by kernel_rfl
def turnsAns (l : List UInt8) : Option (List (List UInt8)) := if lettersW l = true then some (turnsW l) else none
def leastAns (l : List UInt8) : Option (List UInt8) := if lettersW l = true then some ((turnsW l).getD 0 []) else none
theorem turnsAns_len (l : List UInt8) : ((turnsAns l).getD []).length ≤ 1000000000000 := by
  unfold turnsAns
  split
  · rename_i h
    have h1 := insTo_len l l.length
    have h2 := ((lettersW_iff _).1 h).2.1
    simp only [Option.getD_some]
    unfold turnsW
    omega
  · simp
theorem turnsL_len (l : List UInt8) : (turnsL l).length = l.length := by simp [turnsL]
theorem turnsL_at (l : List UInt8) (i : Nat) (h : i < l.length) : (turnsL l)[i]? = some (turn l i) := by simp [turnsL, h]

set_option maxRecDepth 20000 in
set_option maxHeartbeats 2000000 in
theorem implTurnsOf_any (s : ByteArray) (w : World) (hs : s.size ≤ 1048576) : Calls Tryd.prog 24 #[.string s] w fun e w' => StrsAns w (turnsAns s.data.toList) e w' := by
  have HC := hid (fun b w hb => implIsLetters_as s b w hs hb)
  cases hb : lettersW s.data.toList
  · have HA := hid (show turnsAns s.data.toList = none by unfold turnsAns; rw [if_neg (by simp [hb])])
    have HB := hid hb
    rw [HA.out]
    clear hb
    go_enter Tryd.func24, Tryd.ntmps24
    go_wp2_with fail
    refine (HC.out false _ HB.out).mono ?_
    rintro e w1 ⟨rfl, hL⟩
    go_wp2_with fail
    go_ret2
    exact ⟨_, rfl, OwnStrs.nil _ _ _, hL⟩
  · have HA := hid (show turnsAns s.data.toList = some (turnsW s.data.toList) by unfold turnsAns; rw [if_pos hb])
    obtain ⟨h1, h2, _⟩ := (lettersW_iff _).1 hb
    rw [← size_list] at h1 h2
    have HT := hid (fun j w hj => turnedTo_any s j w h2 hj)
    have HTL := hid (fun j => show (turn s.data.toList j).length ≤ 1048576 by rw [turn_len, ← size_list]; omega)
    have HAT := hid (fun i (hi : i < s.size) => show ((turnsL s.data.toList).map strV)[i]? = some (strV (turn s.data.toList i)) by rw [List.getElem?_map, turnsL_at _ _ (by rw [← size_list]; exact hi)]; rfl)
    have HLN := hid (show (turnsL s.data.toList).length = s.size by rw [turnsL_len, size_list])
    have HSM := hid (turns_same s.data.toList)
    have HB := hid hb
    obtain ⟨i0, hi, hz0, hz1, hz2⟩ := info_parts Tryd.infoStrT
    have HBY := hid hz2
    rw [HA.out]
    clear hb
    go_enter Tryd.func24, Tryd.ntmps24
    go_wp2_with fail
    refine (HC.out true _ HB.out).mono ?_
    rintro e w1 ⟨rfl, hL⟩
    have HL1 := hid hL
    clear hL
    go_wp2_with (at_make; refine wpList_make_full _ rfl _ _ 31 rfl w1.heap.size 9 i0 (.string ⟨#[]⟩) 1 Tryd.underlying31 hi hz0 hz1 _ _ _ _ s.size rfl rfl rfl rfl ?b2 ?b3 ?b4 ?_)
    case b2 => rw [HBY.out]; omega
    case b3 => unfold maxLen; omega
    case b4 => exact Nat.le_refl _
    intro w2 hown hgrow
    have hL2 : Later w1 w2 := (Below.refl _ _).grown hgrow (Nat.le_refl _) (by simp)
    have HF2 := hid (show Filled w1.heap.size 9 w2 (.slice (some ⟨w1.heap.size, 0, none⟩) s.size s.size) s.size 0 ((turnsL s.data.toList).map strV) from ⟨_, hown, by simp⟩)
    have HL2 := hid hL2
    clear hown hgrow hL2
    go_wp2_with fail
    go_loopw [14] (fun i wr => ∃ k : Nat, k ≤ s.size ∧ i = .int .i64 k ∧ Filled w1.heap.size 9 wr (.slice (some ⟨w1.heap.size, 0, none⟩) s.size s.size) s.size k ((turnsL s.data.toList).map strV) ∧ Later w1 wr) (fun i _ => s.size - (intOf i).toNat)
    case atStart => exact ⟨0, Nat.zero_le _, rfl, HF2.out, HL2.out⟩
    case round =>
      clear HF2 HL2
      obtain ⟨k, hk, rfl, hF, hL⟩ := hrel
      have HF := hid hF
      have HLr := hid hL
      clear hF hL
      by_cases hlt : k < s.size
      · have hltI : (k : Int) < (s.size : Int) := by omega
        go_wp2_with fail
        refine (HT.out k _ hlt).mono ?_
        rintro e w3 ⟨v, rfl, hsp, hL3⟩
        have HSP := hid hsp
        have HL3 := hid hL3
        clear hsp hL3
        go_wp2_with fail
        refine (HSP.out.text (HTL.out k)).mono ?_
        rintro e w4 ⟨rfl, hL4⟩
        have hLL : Later wr w4 := HL3.out.trans hL4
        have hF4 : Filled w1.heap.size 9 w4 (.slice (some ⟨w1.heap.size, 0, none⟩) s.size s.size) s.size k ((turnsL s.data.toList).map strV) := by
          obtain ⟨xs, hx1, hx2⟩ := HF.out
          exact ⟨xs, ownsRow_keep hx1 fun b hb => hLL.block b (hx1.lt b hb).2, hx2⟩
        obtain ⟨⟨u0, hu0⟩, hfr⟩ := hF4.at hlt
        have HF5 := hid (hF4.step hlt (HAT.out k hlt))
        have HL5 := hid (show Later w1 (w4.setCell ⟨w1.heap.size, k, none⟩ (strV (turn s.data.toList k))) from Below.setCell (HLr.out.trans hLL) (Nat.le_refl _) _)
        obtain ⟨t, ht⟩ : ∃ t : ByteArray, (⟨(turn s.data.toList k).toArray⟩ : ByteArray) = t := ⟨_, rfl⟩
        have hst : strV (turn s.data.toList k) = .string t := by rw [← ht]; rfl
        rw [hst] at HF5 HL5
        rw [ht]
        clear hF4 hLL hL4 ht hst HSP HL3
        go_wp2_with fail
        go_roundw
        case rel => exact ⟨k + 1, hlt, by go_num, HF5.out, HL5.out⟩
        case measure => simp [intOf]; omega
      · have hke : k = s.size := by omega
        subst hke
        have hfull := HF.out.full (by rw [List.length_map, HLN.out])
        have ho : OwnStrs w1.heap.size wr.heap.size wr (.slice (some ⟨w1.heap.size, 0, none⟩) (turnsL s.data.toList).length s.size) (turnsL s.data.toList) := by
          rw [show OwnStrs w1.heap.size wr.heap.size wr (.slice (some ⟨w1.heap.size, 0, none⟩) (turnsL s.data.toList).length s.size) (turnsL s.data.toList) = _ from rfl]
          refine ⟨?_, fun b hb => ?_⟩
          · rw [HLN.out]; exact hfull
          · exact (hfull.lt b (by simpa [Value.ownBlock] using hb)).2
        have hSO := sortS_any w1.heap.size wr.heap.size w1.heap.size s.size (turnsL s.data.toList) wr (by rw [HLN.out]; omega) ho
        rw [HLN.out] at hSO
        have HSO := hid hSO
        clear hfull ho hSO HF
        go_wp2_with fail
        refine HSO.out.mono ?_
        rintro e w3 ⟨rfl, ho3, hg3⟩
        have hsl : (sortedS (turnsL s.data.toList)).length = s.size := by rw [show (sortedS (turnsL s.data.toList)).length = (turnsL s.data.toList).length by simp [sortedS], HLN.out]
        have HL3 := hid (show Later w1 w3 from HLr.out.grown hg3 HLr.out.size (fun b hb => by cases hb; exact Nat.le_refl _))
        have hCO := compactS_any w1.heap.size wr.heap.size w1.heap.size s.size (sortedS (turnsL s.data.toList)) w3 (by rw [hsl]; omega) (by rw [hsl]; exact ho3)
        rw [hsl, HSM.out] at hCO
        have HCO := hid hCO
        have HSZ := hid hg3.size
        clear hCO ho3 hsl hg3
        go_wp2_with fail
        refine HCO.out.mono ?_
        rintro e w5 ⟨rfl, ho5, hg5⟩
        have HL5 := hid (show Later w1 w5 from HL3.out.grown hg5 HL3.out.size (fun b hb => by cases hb; exact Nat.le_refl _))
        have HO5 := hid ho5
        have hsz := hid hg5.size
        clear ho5 hg5
        go_wp2_with fail
        go_ret2
        exact ⟨_, rfl, HO5.out.wide HL1.out.size (by have := HSZ.out; have := hsz.out; omega), HL1.out.trans HL5.out⟩
end Go.Proofs.YtmmapfdmdliifaaDoor
