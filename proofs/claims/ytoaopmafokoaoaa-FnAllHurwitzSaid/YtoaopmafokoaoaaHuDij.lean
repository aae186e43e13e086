/- HuDi, HuDj: in one text. -/
import Derived.Test.YtoaopmafokoaoaaHuTr
import Derived.Test.YtoaopmafokoaoaaHuY
import Derived.Test.YtoaopmafokoaoaaHuDn
namespace Go.Proofs.Ytoaopmafokoaoaa
open Go.RowKit


/-- A solution as four numbers. -/
def QS (a b : Int) (s : So) : Prop := Sol (soL s) a b ∧ Q4 s.1 s.2.1 s.2.2.1 s.2.2.2
def WayRes (w : World) (a b : Int) (W : List (List Int)) (e : Ending) (w' : World) : Prop :=
  ∃ v L, e = .returned v ∧ OwnSols w.heap.size w' v L ∧ L.map soL = W ∧ (∀ s ∈ L, QS a b s) ∧ Later w w'

set_option maxRecDepth 20000 in
set_option maxHeartbeats 4000000 in
theorem wayDownS_any (x y z t a b : Int) (w : World) (hS : Sol (qL x y z t) a b) (hq : Q4 x y z t) :
    Calls Try.prog 76 #[.agg #[.int .i64 x, .int .i64 y, .int .i64 z, .int .i64 t], .int .i64 a] w fun e w' => WayRes w a b (wayL a (qL x y z t)) e w' := by
  obtain ⟨i0, hi, hz0, hz1, hz2⟩ := info_parts Try.infoSo
  have HS := hid hS
  have HQ := hid hq
  obtain ⟨zs, hzs⟩ : ∃ zs, qL x y z t = zs := ⟨_, rfl⟩
  have HZ := hid hzs
  have HSZ := hid hS.sum_bd
  rw [hzs] at HSZ ⊢
  have HB := hid (Box4.new w x y z t)
  have HL := hid (Later.alloc w (.cells #[.int .i64 x, .int .i64 y, .int .i64 z, .int .i64 t] 69))
  clear hS hq hzs
  go_enter Try.func76, Try.ntmps76
  go_wp2_with fail
  generalize w.alloc (.cells #[.int .i64 x, .int .i64 y, .int .i64 z, .int .i64 t] 69) = w1 at HL HB ⊢
  obtain ⟨B, hB⟩ : ∃ B, w.heap.size = B := ⟨_, rfl⟩
  have HBW := hid (show w.heap.size ≤ B by omega)
  rw [hB] at HB ⊢
  clear hB
  refine (jumpFor_any a _).mono ?_
  rintro e w3 ⟨Ba, hBa, rfl, ca, hL3⟩
  have HBA := hid (show B ≠ Ba from fun e => by have := HB.out.arr.lt; omega)
  have HB3 := hid (HB.out.later hL3)
  have HL3 := hid (HL.out.trans hL3)
  have HCA := hid ca
  obtain ⟨⟨c0, c1, c2, c3⟩, f0, f1, f2, f3⟩ := HB3.out
  clear hL3 HB HL hBa ca f0 f1 f2 f3
  go_wp2_with fail
  have hO := OwnSols.one w3 (x, y, z, t)
  have hA := Later.alloc w3 (.cells #[.int .i64 x, .int .i64 y, .int .i64 z, .int .i64 t] 69)
  have HC := hid (show B < w3.heap.size ∧ Ba < w3.heap.size from ⟨HB3.out.arr.lt, World.block_lt_of_cell? w3 ⟨Ba, 0, none⟩ HCA.out⟩)
  have HWC := hid (show w.heap.size ≤ w3.heap.size from HL3.out.size)
  have HB4 := hid (HB3.out.later hA)
  have HL4 := hid (HL3.out.trans hA)
  have HCA4 := hid (hA.cell HCA.out)
  have HO4 := hid (show OwnSols w3.heap.size (w3.alloc (.cells #[.int .i64 x, .int .i64 y, .int .i64 z, .int .i64 t] 69)) (.slice (some ⟨w3.heap.size, 0, none⟩) 1 1) [(x, y, z, t)] from hO)
  have HCS := hid (show w3.heap.size ≤ (w3.alloc (.cells #[.int .i64 x, .int .i64 y, .int .i64 z, .int .i64 t] 69)).heap.size by simp)
  obtain ⟨C, hC⟩ : ∃ C, w3.heap.size = C := ⟨_, rfl⟩
  rw [hC] at HC HWC HO4 HCS ⊢
  generalize w3.alloc (.cells #[.int .i64 x, .int .i64 y, .int .i64 z, .int .i64 t] 69) = w4 at HB4 HL4 HCA4 HO4 HCS ⊢
  clear hC hA hO HB3 HL3 HCA c0 c1 c2 c3
  go_loopw [6] (fun o wr => ∃ (x' y' z' t' : Int) (L : List So), Sol (qL x' y' z' t') a b ∧ Q4 x' y' z' t' ∧ Box4 wr B x' y' z' t' ∧ wr.cell? ⟨Ba, 0, none⟩ = some (.int .i64 a) ∧ OwnSols C wr o L ∧ L.map soL ++ belowL a (qL x' y' z' t') = wayL a zs ∧ (∀ s ∈ L, QS a b s) ∧ L.length + (sumL (qL x' y' z' t')).toNat ≤ 1 + (sumL zs).toNat ∧ Later w wr ∧ C ≤ wr.heap.size)
    (fun o _ => (sumL zs).toNat + 2 - lenOfH o)
  case atStart =>
    have hzz := HZ.out
    subst hzz
    exact ⟨x, y, z, t, [(x, y, z, t)], HS.out, HQ.out, HB4.out, HCA4.out, HO4.out, rfl, fun s hs => by rw [List.mem_singleton] at hs; subst hs; exact ⟨HS.out, HQ.out⟩, by simp, HL4.out, HCS.out⟩
  case round =>
    clear HB4 HL4 HCA4 HO4 HCS
    obtain ⟨x', y', z', t', L, hSy, hQy, hBx, ca, hO, hR, hAll, hle, hL, hCw⟩ := hrel
    have HCW := hid hCw
    clear hCw
    have HSy := hid hSy
    have HQy := hid hQy
    have HBx := hid hBx
    have HCA := hid ca
    have HO := hid hO
    have HR := hid hR
    have HAL := hid hAll
    have HL := hid hL
    have hyb := hSy.sum_bd
    have hzb := HSZ.out
    obtain ⟨o1, o2, rfl, hoc⟩ := hO.shape
    obtain ⟨⟨c0, c1, c2, c3⟩, f0, f1, f2, f3⟩ := hBx
    have HI0 := hid (show 0 < qN t' by have := qN_bd t'; omega)
    clear hSy hQy ca hO hR hAll hL hoc
    cases hl : lastB a (qL x' y' z' t')
    · have HLB := hid hl
      have hn := HSy.out.next hl
      have HJ := hid hn.1
      have HNS := hid hn.2.1
      have HNL := hid hn.2.2
      have HST := hid (belowL_step HSy.out hl)
      clear hl hn
      go_wp2_with fail
      refine (isFundamentalS_any x' y' z' t' a b _ HSy.out).mono ?_
      rintro e w5 ⟨rfl, hL5⟩
      rw [HLB.out]
      have HB5 := hid (HBx.out.later hL5)
      have HCA5 := hid (hL5.cell HCA.out)
      have HO5 := hid (HO.out.later hL5)
      have HCW5 := hid (Nat.le_trans HCW.out hL5.size)
      have HL5 := hid (HL.out.trans hL5)
      replace c0 := hL5.cell c0
      replace c1 := hL5.cell c1
      replace c2 := hL5.cell c2
      replace c3 := hL5.cell c3
      clear hL5 f0 f1 f2 f3
      go_wp2_with fail
      refine (jumpC_any x' y' z' t' a b 0 Ba _ HSy.out HQy.out HI0.out HCA5.out).mono ?_
      rintro e w6 (⟨hj, _, _⟩ | ⟨p', q', r', s', hj, hQ4, rfl, hL6⟩)
      · rw [HJ.out] at hj; simp at hj
      · rw [HJ.out] at hj
        simp only [Option.some.injEq] at hj
        rw [hj] at HNS HNL HST
        have HQ4 := hid hQ4
        have HB6 := hid (HB5.out.later hL6)
        have HCA6 := hid (hL6.cell HCA5.out)
        have HO6 := hid (HO5.out.later hL6)
        have HCW6 := hid (Nat.le_trans HCW5.out hL6.size)
        have HL6 := hid (HL5.out.trans hL6)
        obtain ⟨⟨d0, d1, d2, d3⟩, f0, f1, f2, f3⟩ := HB6.out
        clear hL6 hQ4 hj c0 c1 c2 c3 HB5 HCA5 HO5 HL5
        go_upto_region 5 with fail
        have HB7 := hid (HB6.out.set p' q' r' s')
        have HO7 := hid (show OwnSols C ((((w6.setCell ⟨B, 0, none⟩ (.int .i64 p')).setCell ⟨B, 1, none⟩ (.int .i64 q')).setCell ⟨B, 2, none⟩ (.int .i64 r')).setCell ⟨B, 3, none⟩ (.int .i64 s')) _ L from ownsRow_keepS HO6.out fun bk hbk => set4_far _ _ _ _ _ _ _ (by have h1 := (HO6.out.lt bk hbk).1; have := HC.out.1; omega))
        have HCA7 := hid (cell_keep HCA6.out (set4_far w6 B Ba p' q' r' s' (fun e => HBA.out e.symm)))
        have HL7 := hid (set4_later HL6.out HBW.out p' q' r' s')
        have HCW7 := hid (show C ≤ ((((w6.setCell ⟨B, 0, none⟩ (.int .i64 p')).setCell ⟨B, 1, none⟩ (.int .i64 q')).setCell ⟨B, 2, none⟩ (.int .i64 r')).setCell ⟨B, 3, none⟩ (.int .i64 s')).heap.size by simp; exact HCW6.out)
        generalize ((((w6.setCell ⟨B, 0, none⟩ (.int .i64 p')).setCell ⟨B, 1, none⟩ (.int .i64 q')).setCell ⟨B, 2, none⟩ (.int .i64 r')).setCell ⟨B, 3, none⟩ (.int .i64 s')) = w7 at HB7 HO7 HCA7 HL7 HCW7 ⊢
        clear d0 d1 d2 d3 f0 f1 f2 f3 HB6 HCA6 HO6 HL6
        obtain ⟨⟨d0, d1, d2, d3⟩, _⟩ := HB7.out
        have hA := Later.alloc w7 (.cells #[.int .i64 p', .int .i64 q', .int .i64 r', .int .i64 s'] 69)
        have HB8 := hid (HB7.out.later hA)
        have HO8 := hid (HO7.out.later hA)
        have HCA8 := hid (hA.cell HCA7.out)
        have HL8 := hid (HL7.out.trans hA)
        have hll : L.length ≤ 400001 := by omega
        have hCs : C ≤ w7.heap.size := HCW7.out
        clear hA
        go_wp2_with (at_builtin; refine wpList_append_lies _ (by rfl) _ _ _ (by rfl) C 69 i0 (.agg #[.int .i64 0, .int .i64 0, .int .i64 0, .int .i64 0]) 4 32 Try.underlying72 hi hz0 hz1 hz2 rfl (by omega) _ L.length (soCells L) (by rfl) (by exact HO8.out) ⟨w7.heap.size, 0, none⟩ 1 1 [.int .i64 p', .int .i64 q', .int .i64 r', .int .i64 s'] (by rfl) (by rfl) (World.news_of_block (cs := #[.int .i64 p', .int .i64 q', .int .i64 r', .int .i64 s']) (t := 69) (fr := (0, 0)) (heap_alloc_new w7 _)) (by simp [Value.oneCell']) (by omega) (by unfold maxLen; omega) (by omega) (by simp; omega) (w7.heap.size + 1) (by simp) ?_)
        intro g cap1 w9 hown9 hgrow hat hglt
        have HO9 := hid (show OwnSols C w9 (.slice (some ⟨g, 0, none⟩) (L.length + 1) cap1) (L ++ [(p', q', r', s')]) by
          unfold OwnSols; rw [soCells_snoc, List.length_append]; exact hown9)
        have HB9 := hid (HB8.out.keep (hgrow.block B (by simp; have := HC.out.1; omega) (fun e => by have := (HO8.out.lt B e.symm).1; have := HC.out.1; omega)))
        have HCA9 := hid (cell_keep HCA8.out (hgrow.block Ba (by simp; have := HC.out.2; omega) (fun e => by have := (HO8.out.lt Ba e.symm).1; have := HC.out.2; omega)))
        have HL9 := hid (show Later w w9 from HL8.out.grown hgrow (by have := HL7.out.size; simp; omega) (fun b' hb' => by have := (HO8.out.lt b' hb').1; have := HWC.out; omega))
        have HCW9 := hid (show C ≤ w9.heap.size by have := hgrow.size; simp at this; omega)
        clear hown9 hgrow hat d0 d1 d2 d3
        go_wp2_with fail
        go_roundw
        case rel => exact ⟨p', q', r', s', L ++ [(p', q', r', s')], HNS.out, HQ4.out, HB9.out, HCA9.out, HO9.out, by rw [List.map_append, List.append_assoc]; show List.map soL L ++ (qL p' q' r' s' :: belowL a (qL p' q' r' s')) = _; rw [← HST.out]; exact HR.out, fun s hs => by
          rcases List.mem_append.1 hs with h | h
          · exact HAL.out s h
          · rw [List.mem_singleton] at h; subst h; exact ⟨HNS.out, HQ4.out⟩, by have := HNL.out; simp; omega, HL9.out, HCW9.out⟩
        case measure => simp [lenOfH]; have := HNL.out; omega
    · have HLB := hid hl
      have HE := hid (show L.map soL = wayL a zs by have := HR.out; rw [belowL_last hl, List.append_nil] at this; exact this)
      clear hl
      go_wp2_with fail
      refine (isFundamentalS_any x' y' z' t' a b _ HSy.out).mono ?_
      rintro e w5 ⟨rfl, hL5⟩
      rw [HLB.out]
      have HO5 := hid ((HO.out.later hL5).base HWC.out)
      have HL5 := hid (HL.out.trans hL5)
      clear hL5 f0 f1 f2 f3 c0 c1 c2 c3
      go_wp2_with fail
      go_ret
      exact ⟨_, L, rfl, HO5.out, HE.out, HAL.out, HL5.out⟩


set_option maxRecDepth 20000 in
set_option maxHeartbeats 4000000 in
theorem implFundamentalOf_any (v : Value) (zs : List Int) (a b : Int) (w : World) (h : Ints w v zs) :
    Calls Try.prog 25 #[v, .int .i64 a, .int .i64 b] w fun e w' => IntsAns w (fundLAns zs a b) e w' := by
  obtain ⟨p, cap, rfl, hl, _⟩ := id h
  have H := hid h
  clear h
  cases hs : (givenB a b && solB zs a b)
  · have HS := hid hs
    have HA := hid (show fundLAns zs a b = none by unfold fundLAns; rw [hs]; simp)
    clear hs
    go_enter Try.func25, Try.ntmps25
    go_wp2_with fail
    refine (solutionOf_no _ zs a b _ HS.out H.out).mono ?_
    rintro e w1 ⟨rfl, hL⟩
    have HL := hid (hL.trans (Later.alloc w1 (.cells #[.int .i64 0, .int .i64 0, .int .i64 0, .int .i64 0] 69)))
    clear hL
    go_wp2_with fail
    go_ret2
    rw [HA.out]
    exact ⟨_, rfl, OwnInts.nothing0 _ _ _, HL.out⟩
  · have hS := Sol.good hs
    have HS := hid hS
    obtain ⟨x, y, z, t, rfl, hq⟩ := hS.q4
    have HQ := hid hq
    have HA := hid (show fundLAns (qL x y z t) a b = some ((wayL a (qL x y z t)).getD ((wayL a (qL x y z t)).length - 1) []) by unfold fundLAns; rw [if_pos hs])
    have HWL := hid hS.way_len
    have HW1 := hid (show 1 ≤ (wayL a (qL x y z t)).length by unfold wayL; simp)
    clear hs hS hq
    go_enter Try.func25, Try.ntmps25
    go_wp2_with fail
    refine (solutionOf_yes _ x y z t a b _ HS.out HQ.out H.out).mono ?_
    rintro e w1 ⟨rfl, hL⟩
    obtain ⟨c0, c1, c2, c3⟩ := arr4_alloc w1 x y z t
    have HL := hid (hL.trans (Later.alloc w1 (.cells #[.int .i64 x, .int .i64 y, .int .i64 z, .int .i64 t] 69)))
    clear hL
    go_wp2_with fail
    generalize w1.alloc (.cells #[.int .i64 x, .int .i64 y, .int .i64 z, .int .i64 t] 69) = w2 at c0 c1 c2 c3 HL ⊢
    refine (wayDownS_any x y z t a b _ HS.out HQ.out).mono ?_
    rintro e w3 ⟨v3, L, rfl, ho, hm, _, hL3⟩
    have hlen : L.length ≤ 400000 := by have := HWL.out; rw [← hm, List.length_map] at this; exact this
    have hlen1 : 1 ≤ L.length := by have := HW1.out; rw [← hm, List.length_map] at this; exact this
    have hso := ho.sols (by omega)
    obtain ⟨n, hn⟩ : ∃ n, L.length = n + 1 := ⟨L.length - 1, by omega⟩
    obtain ⟨a3, c3', rfl, _, hcs⟩ := hso
    obtain ⟨g, rfl, d0, d1, d2, d3⟩ := hcs n (by omega)
    obtain ⟨⟨p', q', r', s'⟩, hs'⟩ : ∃ s, L[n] = s := ⟨_, rfl⟩
    have HE := hid (show (wayL a (qL x y z t)).getD ((wayL a (qL x y z t)).length - 1) [] = qL p' q' r' s' by
      rw [← hm, List.length_map, hn, Nat.add_sub_cancel]
      simp [hn, hs', soL])
    rw [hs'] at d0 d1 d2 d3
    have HL3 := hid (HL.out.trans hL3)
    have hnb : (n : Int) ≤ 400000 := by omega
    rw [hn]
    simp only at d0 d1 d2 d3
    clear hL3 ho hm c0 c1 c2 c3 hs' hcs hn hlen hlen1
    go_wp2_with fail
    refine (listS_any p' q' r' s' _).mono ?_
    rintro e w4 ⟨v4, rfl, ho4, hL4⟩
    have HO4 := hid (ho4.wide HL3.out.size (Nat.le_refl _))
    have HL4 := hid (HL3.out.trans hL4)
    clear ho4 hL4
    go_wp2_with fail
    go_ret2
    rw [HA.out, HE.out]
    exact ⟨_, rfl, HO4.out, HL4.out⟩
end Go.Proofs.Ytoaopmafokoaoaa
