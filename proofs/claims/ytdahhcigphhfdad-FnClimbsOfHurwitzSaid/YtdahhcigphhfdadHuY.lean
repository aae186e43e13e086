/- Equations of Hurwitz: ClimbHurwitz, JumpAt (the program). -/
import Derived.Test.YtdahhcigphhfdadHuX
namespace Go.Proofs.Ytdahhcigphhfdad
open Go.RowKit

/-- Four cells of block B that may be written. -/
structure Box4 (w : World) (B : Nat) (x y z t : Int) : Prop where
  arr : Arr4 w B x y z t
  frz : Frz4 w B
theorem Box4.later {w w' : World} {B : Nat} {x y z t : Int} (h : Box4 w B x y z t) (k : Later w w') : Box4 w' B x y z t :=
  ⟨h.arr.later k, ⟨k.frozen h.arr.c0 h.frz.f0, k.frozen h.arr.c1 h.frz.f1, k.frozen h.arr.c2 h.frz.f2, k.frozen h.arr.c3 h.frz.f3⟩⟩
theorem Box4.keep {w w' : World} {B : Nat} {x y z t : Int} (h : Box4 w B x y z t) (k : w'.heap[B]? = w.heap[B]?) : Box4 w' B x y z t := ⟨h.arr.keep k, h.frz.keep k⟩
theorem Box4.set {w : World} {B : Nat} {x y z t : Int} (h : Box4 w B x y z t) (p q r s : Int) :
    Box4 ((((w.setCell ⟨B, 0, none⟩ (.int .i64 p)).setCell ⟨B, 1, none⟩ (.int .i64 q)).setCell ⟨B, 2, none⟩ (.int .i64 r)).setCell ⟨B, 3, none⟩ (.int .i64 s)) B p q r s :=
  ⟨h.arr.set p q r s, (((h.frz.set _ _).set _ _).set _ _).set _ _⟩
theorem Box4.new (w : World) (x y z t : Int) : Box4 (w.alloc (.cells #[.int .i64 x, .int .i64 y, .int .i64 z, .int .i64 t] 49)) w.heap.size x y z t :=
  ⟨arr4_alloc w x y z t, ⟨by simp [go_sem], by simp [go_sem], by simp [go_sem], by simp [go_sem]⟩⟩
theorem set4_far (w : World) (B b : Nat) (p q r s : Int) (h : b ≠ B) :
    ((((w.setCell ⟨B, 0, none⟩ (.int .i64 p)).setCell ⟨B, 1, none⟩ (.int .i64 q)).setCell ⟨B, 2, none⟩ (.int .i64 r)).setCell ⟨B, 3, none⟩ (.int .i64 s)).heap[b]? = w.heap[b]? := by
  rw [heap_setCell_other _ _ b _ h, heap_setCell_other _ _ b _ h, heap_setCell_other _ _ b _ h, heap_setCell_other _ _ b _ h]
theorem set4_later {w0 w : World} {B : Nat} (h : Later w0 w) (hB : w0.heap.size ≤ B) (p q r s : Int) :
    Later w0 ((((w.setCell ⟨B, 0, none⟩ (.int .i64 p)).setCell ⟨B, 1, none⟩ (.int .i64 q)).setCell ⟨B, 2, none⟩ (.int .i64 r)).setCell ⟨B, 3, none⟩ (.int .i64 s)) :=
  Below.setCell (Below.setCell (Below.setCell (Below.setCell h hB _) hB _) hB _) hB _

set_option maxRecDepth 20000 in
set_option maxHeartbeats 4000000 in
theorem implClimbHurwitz_any (v u : Value) (zs : List Int) (a b : Int) (word : List Int) (w : World) (h : Ints w v zs) (hu : Ints w u word) :
    Calls Try.prog 24 #[v, .int .i64 a, .int .i64 b, u] w fun e w' => IntsAns w (climbAns zs a b word) e w' := by
  obtain ⟨p, cap, rfl, hl, _⟩ := id h
  obtain ⟨p2, cap2, rfl, hl2, hcw⟩ := id hu
  have H := hid h
  have HU := hid hu
  have HCW := hid hcw
  clear h hu hcw
  cases hs : (givenB a b && solB zs a b)
  · have HS := hid hs
    have HA := hid (show climbAns zs a b word = none by unfold climbAns; rw [hs]; simp)
    clear hs
    go_enter Try.func24, Try.ntmps24
    go_wp2_with fail
    refine (solutionOf_no _ zs a b _ HS.out H.out).mono ?_
    rintro e w1 ⟨rfl, hL⟩
    have HL := hid (hL.trans (Later.alloc w1 (.cells #[.int .i64 0, .int .i64 0, .int .i64 0, .int .i64 0] 49)))
    clear hL
    go_wp2_with fail
    go_ret2
    rw [HA.out]
    exact ⟨_, rfl, OwnInts.nothing0 _ _ _, HL.out⟩
  · have hS := Sol.good hs
    have HS := hid hS
    obtain ⟨x, y, z, t, rfl, hq⟩ := hS.q4
    have HQ := hid hq
    have HLN := hid (qL_len x y z t)
    cases hw : wordB word (qL x y z t).length
    · have HW := hid hw
      have HA := hid (show climbAns (qL x y z t) a b word = none by unfold climbAns; rw [hw]; simp)
      clear hs hS hq hw
      go_enter Try.func24, Try.ntmps24
      go_wp2_with fail
      refine (solutionOf_yes _ x y z t a b _ HS.out HQ.out H.out).mono ?_
      rintro e w1 ⟨rfl, hL⟩
      obtain ⟨c0, c1, c2, c3⟩ := arr4_alloc w1 x y z t
      have HL := hid (hL.trans (Later.alloc w1 (.cells #[.int .i64 x, .int .i64 y, .int .i64 z, .int .i64 t] 49)))
      clear hL
      go_wp2_with fail
      refine (isIndexWordH_as _ word _ _ _ HW.out (HU.out.later HL.out)).mono ?_
      rintro e w' ⟨rfl, rfl⟩
      go_wp2_with fail
      go_ret2
      rw [HA.out]
      exact ⟨_, rfl, OwnInts.nothing0 _ _ _, HL.out⟩
    · have HW := hid hw
      have HA := hid (show climbAns (qL x y z t) a b word = climbL a (qL x y z t) word by unfold climbAns; rw [if_pos ⟨hs, hw⟩])
      have hwall : word.all (within 0 (((qL x y z t).length : Int) - 1)) = true := by unfold wordB at hw; rw [Bool.and_eq_true] at hw; exact hw.2
      have HWA := hid hwall
      clear hs hS hq hw hwall
      go_enter Try.func24, Try.ntmps24
      go_wp2_with fail
      refine (solutionOf_yes _ x y z t a b _ HS.out HQ.out H.out).mono ?_
      rintro e w1 ⟨rfl, hL⟩
      obtain ⟨c0, c1, c2, c3⟩ := arr4_alloc w1 x y z t
      have HB := hid (Box4.new w1 x y z t)
      have HL := hid (hL.trans (Later.alloc w1 (.cells #[.int .i64 x, .int .i64 y, .int .i64 z, .int .i64 t] 49)))
      have HBW := hid hL.size
      clear hL
      go_wp2_with fail
      generalize w1.alloc (.cells #[.int .i64 x, .int .i64 y, .int .i64 z, .int .i64 t] 49) = w2 at c0 c1 c2 c3 HL HB ⊢
      obtain ⟨B, hB⟩ : ∃ B, w1.heap.size = B := ⟨_, rfl⟩
      rw [hB] at HB HBW ⊢
      clear hB c0 c1 c2 c3
      refine (isIndexWordH_as _ word _ _ _ HW.out (HU.out.later HL.out)).mono ?_
      rintro e w' ⟨rfl, rfl⟩
      go_wp2_with fail
      refine (jumpFor_any a _).mono ?_
      rintro e w3 ⟨Ba, hBa, rfl, ca, hL3⟩
      have HBA := hid (show B ≠ Ba from fun e => by have := HB.out.arr.lt; omega)
      have HB3 := hid (HB.out.later hL3)
      have HL3 := hid (HL.out.trans hL3)
      have HCA := hid ca
      clear hL3 HB HL hBa ca
      go_wp2_with fail
      go_loopw [35] (fun i wr => ∃ (k : Nat) (x' y' z' t' : Int), k ≤ word.length ∧ i = .int .i64 k ∧ Sol (qL x' y' z' t') a b ∧ Q4 x' y' z' t' ∧ qN t' = qN t ∧ Box4 wr B x' y' z' t' ∧ wr.cell? ⟨Ba, 0, none⟩ = some (.int .i64 a) ∧ climbL a (qL x y z t) word = climbL a (qL x' y' z' t') (word.drop k) ∧ Later w wr)
        (fun i _ => word.length - (intOf i).toNat)
      case atStart => exact ⟨0, x, y, z, t, Nat.zero_le _, rfl, HS.out, HQ.out, rfl, HB3.out, HCA.out, rfl, HL3.out⟩
      case round =>
        clear HB3 HL3 HCA
        obtain ⟨k, x', y', z', t', hk, rfl, hSy, hQy, hNy, hBx, ca, hC, hL⟩ := hrel
        have HSy := hid hSy
        have HQy := hid hQy
        have HNy := hid hNy
        have HBx := hid hBx
        have HCA := hid ca
        have HC := hid hC
        have HL := hid hL
        obtain ⟨⟨c0, c1, c2, c3⟩, f0, f1, f2, f3⟩ := hBx
        clear hSy hQy hNy ca hC hL
        by_cases hlt : k < word.length
        · obtain ⟨adw, rfl, hcell⟩ := HCW.out k hlt
          simp only [getD_at word k hlt] at hcell
          have hc2 := HL.out.cell hcell
          have hwk := within_idx.1 (all_at HWA.out k hlt)
          have hcs := HC.out
          rw [drop_consW word k hlt] at hcs
          obtain ⟨i, hi⟩ : ∃ i, word[k] = i := ⟨_, rfl⟩
          rw [hi] at hc2 hwk hcs
          obtain ⟨j, rfl⟩ : ∃ j : Nat, i = (j : Int) := ⟨i.toNat, by omega⟩
          have HJ := hid (show j < qN t' by have := HNy.out; have := HLN.out; omega)
          have HCS := hid hcs
          have HT := hid (show ((j : Int)).toNat = j by omega)
          clear hcell hi hcs
          go_wp2_with fail
          refine (jumpC_any x' y' z' t' a b j Ba _ HSy.out HQy.out HJ.out HCA.out).mono ?_
          rintro e w4 (⟨hj, rfl, hL4⟩ | ⟨p', q', r', s', hj, hQ4, rfl, hL4⟩)
          · have HN := hid (show climbL a (qL x y z t) word = none by rw [HCS.out]; exact climbL_none (by rw [HT.out]; exact hj))
            have HL4 := hid (HL.out.trans hL4)
            replace f0 := hL4.frozen c0 f0
            replace f1 := hL4.frozen c1 f1
            replace f2 := hL4.frozen c2 f2
            replace f3 := hL4.frozen c3 f3
            replace c0 := hL4.cell c0
            replace c1 := hL4.cell c1
            replace c2 := hL4.cell c2
            replace c3 := hL4.cell c3
            clear hj hL4
            go_wp2_with fail
            go_ret2
            rw [HA.out, HN.out]
            refine ⟨_, rfl, OwnInts.nothing0 _ _ _, ?_⟩
            exact set4_later HL4.out HBW.out _ _ _ _
          · have HN := hid (show climbL a (qL x y z t) word = climbL a (qL p' q' r' s') (word.drop (k + 1)) by rw [HCS.out]; exact climbL_some (by rw [HT.out]; exact hj))
            have HS2 := hid (HSy.out.jump (by rw [qL_len]; exact HJ.out) hj)
            have hl2 := Sol.jump_len hj
            rw [qL_len, qL_len] at hl2
            have HNy2 := hid (hl2.trans HNy.out)
            have HQ4 := hid hQ4
            have HL4 := hid (HL.out.trans hL4)
            have HB4 := hid (HBx.out.later hL4)
            have HCA4 := hid (hL4.cell HCA.out)
            replace f0 := hL4.frozen c0 f0
            replace f1 := hL4.frozen c1 f1
            replace f2 := hL4.frozen c2 f2
            replace f3 := hL4.frozen c3 f3
            replace c0 := hL4.cell c0
            replace c1 := hL4.cell c1
            replace c2 := hL4.cell c2
            replace c3 := hL4.cell c3
            clear hj hL4 hl2 hQ4
            go_wp2_with fail
            go_roundw
            case rel => exact ⟨k + 1, p', q', r', s', hlt, by go_num, HS2.out, HQ4.out, HNy2.out, HB4.out.set p' q' r' s', cell_keep HCA4.out (set4_far w4 B Ba p' q' r' s' (fun e => HBA.out e.symm)), HN.out, set4_later HL4.out HBW.out p' q' r' s'⟩
            case measure => simp [intOf]; omega
        · have HE := hid (show climbL a (qL x y z t) word = some (qL x' y' z' t') by rw [HC.out, List.drop_eq_nil_of_le (by omega)]; rfl)
          clear f0 f1 f2 f3
          go_wp2_with fail
          refine (listS_any x' y' z' t' _).mono ?_
          rintro e w4 ⟨v4, rfl, ho4, hL4⟩
          have HO4 := hid (ho4.wide HL.out.size (Nat.le_refl _))
          have HL4 := hid (HL.out.trans hL4)
          clear ho4 hL4
          go_wp2_with fail
          go_ret2
          rw [HA.out, HE.out]
          exact ⟨_, rfl, HO4.out, HL4.out⟩

theorem climb_one (zs : List Int) (a b i : Int) : climbAns zs a b [i] = jumpAns zs a b i := by
  have e : wordB [i] zs.length = within 0 ((zs.length : Int) - 1) i := by simp [wordB]
  have e2 : climbL a zs [i] = jumpL a zs i.toNat := by
    unfold climbL
    cases jumpL a zs i.toNat <;> rfl
  unfold climbAns jumpAns
  rw [e, e2]
set_option maxRecDepth 20000 in
theorem implJumpAt_any (v : Value) (zs : List Int) (a b i : Int) (w : World) (h : Ints w v zs) :
    Calls Try.prog 8 #[v, .int .i64 a, .int .i64 b, .int .i64 i] w fun e w' => IntsAns w (jumpAns zs a b i) e w' := by
  have hA := Later.alloc w (.cells #[.int .i64 i] 3)
  have H := hid (h.later hA)
  have hw : Ints (w.alloc (.cells #[.int .i64 i] 3)) (.slice (some ⟨w.heap.size, 0, none⟩) 1 1) [i] := by
    refine ⟨_, 1, rfl, by simp, fun j hj => ⟨_, rfl, ?_⟩⟩
    have h0 : j = 0 := by simpa using hj
    subst h0
    simp [go_sem, Addr.add]
  have HW := hid hw
  clear hw
  have HL := hid hA
  obtain ⟨p, cap, rfl, hl, _⟩ := id h
  clear h hA
  go_enter Try.func8, Try.ntmps8
  go_wp2_with fail
  refine (implClimbHurwitz_any _ _ zs a b [i] _ H.out HW.out).mono ?_
  rintro e w2 ⟨v2, rfl, ho, hL⟩
  rw [climb_one] at ho ⊢
  have HO := hid (ho.wide HL.out.size (Nat.le_refl _))
  have HL2 := hid (HL.out.trans hL)
  clear ho hL
  go_wp2_with fail
  go_ret2
  exact ⟨_, rfl, HO.out, HL2.out⟩
end Go.Proofs.Ytdahhcigphhfdad
