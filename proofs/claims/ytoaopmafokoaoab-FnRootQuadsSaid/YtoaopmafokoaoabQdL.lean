/- Four curvatures: the way down (the program). -/
import Derived.Test.YtoaopmafokoaoabQdK
namespace Go.Proofs.Ytoaopmafokoaoab
open Go.RowKit

def QWay (w : World) (zs : List Int) (e : Ending) (w' : World) : Prop :=
  ∃ v L, e = .returned v ∧ OwnQs w.heap.size w' v L ∧ L.map qsL = wayQ zs ∧ Later w w'

set_option maxRecDepth 20000 in
set_option maxHeartbeats 4000000 in
theorem downPathS_any (a b c d : Int) (w : World) (hq : QD a b c d) :
    Calls Try.prog 93 #[.agg #[.int .i64 a, .int .i64 b, .int .i64 c, .int .i64 d]] w fun e w' => QWay w [a, b, c, d] e w' := by
  obtain ⟨i0, hi, hz0, hz1, hz2⟩ := info_parts Try.infoQd
  have HG0 := hid ((apB_iff a b c d).2 hq)
  have HSZ := hid (apB_sum HG0.out)
  obtain ⟨zs, hzs⟩ : ∃ zs, [a, b, c, d] = zs := ⟨_, rfl⟩
  have HZ := hid hzs
  rw [hzs] at HSZ ⊢
  have HB := hid (QBox.new w a b c d)
  have HL := hid (Later.alloc w (.cells #[.int .i64 a, .int .i64 b, .int .i64 c, .int .i64 d] 62))
  obtain ⟨c0, c1, c2, c3, _, _, _, _⟩ := QBox.new w a b c d
  clear hq hzs
  go_enter Try.func93, Try.ntmps93
  go_upto_region 1 with fail
  generalize w.alloc (.cells #[.int .i64 a, .int .i64 b, .int .i64 c, .int .i64 d] 62) = w3 at HL HB c0 c1 c2 c3 ⊢
  obtain ⟨B, hB⟩ : ∃ B, w.heap.size = B := ⟨_, rfl⟩
  have HBW := hid (show w.heap.size ≤ B by omega)
  rw [hB] at HB c0 c1 c2 c3 ⊢
  clear hB
  go_wp2_with fail
  have hO := OwnQs.one w3 (a, b, c, d)
  have hA := Later.alloc w3 (.cells #[.int .i64 a, .int .i64 b, .int .i64 c, .int .i64 d] 62)
  have HC := hid (show B < w3.heap.size from HB.out.lt)
  have HWC := hid (show w.heap.size ≤ w3.heap.size from HL.out.size)
  have HB4 := hid (HB.out.later hA)
  have HL4 := hid (HL.out.trans hA)
  have HO4 := hid (show OwnQs w3.heap.size (w3.alloc (.cells #[.int .i64 a, .int .i64 b, .int .i64 c, .int .i64 d] 62)) (.slice (some ⟨w3.heap.size, 0, none⟩) 1 1) [(a, b, c, d)] from hO)
  have HCS := hid (show w3.heap.size ≤ (w3.alloc (.cells #[.int .i64 a, .int .i64 b, .int .i64 c, .int .i64 d] 62)).heap.size by simp)
  obtain ⟨C, hC⟩ : ∃ C, w3.heap.size = C := ⟨_, rfl⟩
  rw [hC] at HC HWC HO4 HCS ⊢
  generalize w3.alloc (.cells #[.int .i64 a, .int .i64 b, .int .i64 c, .int .i64 d] 62) = w4 at HB4 HL4 HO4 HCS ⊢
  clear hC hA hO HB HL c0 c1 c2 c3
  go_loopw [3] (fun o wr => ∃ (x y z t : Int) (L : List Qd4), apB [x, y, z, t] = true ∧ QBox wr B x y z t ∧ OwnQs C wr o L ∧ L.map qsL ++ belowQ [x, y, z, t] = wayQ zs ∧ L.length + [x, y, z, t].sum.toNat ≤ 1 + zs.sum.toNat ∧ Later w wr ∧ C ≤ wr.heap.size)
    (fun o _ => zs.sum.toNat + 2 - lenOfH o)
  case atStart =>
    have hzz := HZ.out
    subst hzz
    exact ⟨a, b, c, d, [(a, b, c, d)], HG0.out, HB4.out, HO4.out, rfl, by simp only [List.length_singleton]; exact Nat.le_refl _, HL4.out, HCS.out⟩
  case round =>
    clear HB4 HL4 HO4 HCS
    obtain ⟨x, y, z, t, L, hSy, hBx, hO, hR, hle, hL, hCw⟩ := hrel
    have HCW := hid hCw
    have HSy := hid hSy
    have HQy := hid ((apB_iff x y z t).1 hSy)
    have HBx := hid hBx
    have HO := hid hO
    have HR := hid hR
    have HL := hid hL
    have hyb := apB_sum hSy
    have HLE := hid hle
    obtain ⟨hzb1, hzb2⟩ := HSZ.out
    obtain ⟨o1, o2, rfl, hoc⟩ := hO.shape
    obtain ⟨c0, c1, c2, c3, f0, f1, f2, f3⟩ := hBx
    have hll : L.length ≤ 400001 := by omega
    clear hO hR hL hoc hCw hSy hle hyb
    cases hl : lastQ [x, y, z, t]
    · have HLB := hid hl
      have hn := nextQ_good HSy.out hl
      have HST := hid (belowQ_step HSy.out hl)
      have HLW := hid (lowQ_next hl)
      have HN := hid hn
      clear hl hn
      go_wp2_with fail
      refine (isRootS_any x y z t _ HQy.out).mono ?_
      rintro e w5 ⟨rfl, hL5⟩
      rw [HLB.out]
      have HB5 := hid (HBx.out.later hL5)
      have HO5 := hid (HO.out.later hL5)
      have HCW5 := hid (Nat.le_trans HCW.out hL5.size)
      have HL5 := hid (HL.out.trans hL5)
      clear hL5 c0 c1 c2 c3 f0 f1 f2 f3
      obtain ⟨c0, c1, c2, c3, _, _, _, _⟩ := HB5.out
      go_wp2_with fail
      refine (lowered_any x y z t _ HQy.out).mono ?_
      rintro e w6 ⟨p', q', r', s', hpq, rfl, hL6⟩
      rw [HLW.out] at hpq
      have HPQ := hid hpq
      rw [hpq] at HN HST
      have HB6 := hid (HB5.out.later hL6)
      have HO6 := hid (HO5.out.later hL6)
      have HCW6 := hid (Nat.le_trans HCW5.out hL6.size)
      have HL6 := hid (HL5.out.trans hL6)
      obtain ⟨d0, d1, d2, d3, f0, f1, f2, f3⟩ := HB6.out
      clear hL6 hpq c0 c1 c2 c3 HB5 HO5 HL5
      go_upto_region 4 with fail
      have HB7 := hid (HB6.out.set p' q' r' s')
      have HO7 := hid (show OwnQs C ((((w6.setCell ⟨B, 0, none⟩ (.int .i64 p')).setCell ⟨B, 1, none⟩ (.int .i64 q')).setCell ⟨B, 2, none⟩ (.int .i64 r')).setCell ⟨B, 3, none⟩ (.int .i64 s')) _ L from ownsRow_keepQ HO6.out fun bk hbk => setQ_far _ _ _ _ _ _ _ (by have h1 := (HO6.out.lt bk hbk).1; have := HC.out; omega))
      have HL7 := hid (setQ_later HL6.out HBW.out p' q' r' s')
      have HCW7 := hid (show C ≤ ((((w6.setCell ⟨B, 0, none⟩ (.int .i64 p')).setCell ⟨B, 1, none⟩ (.int .i64 q')).setCell ⟨B, 2, none⟩ (.int .i64 r')).setCell ⟨B, 3, none⟩ (.int .i64 s')).heap.size by simp; exact HCW6.out)
      generalize ((((w6.setCell ⟨B, 0, none⟩ (.int .i64 p')).setCell ⟨B, 1, none⟩ (.int .i64 q')).setCell ⟨B, 2, none⟩ (.int .i64 r')).setCell ⟨B, 3, none⟩ (.int .i64 s')) = w7 at HB7 HO7 HL7 HCW7 ⊢
      clear d0 d1 d2 d3 f0 f1 f2 f3 HB6 HO6 HL6
      obtain ⟨d0, d1, d2, d3, _, _, _, _⟩ := HB7.out
      have hA := Later.alloc w7 (.cells #[.int .i64 p', .int .i64 q', .int .i64 r', .int .i64 s'] 62)
      have HB8 := hid (HB7.out.later hA)
      have HO8 := hid (HO7.out.later hA)
      have HL8 := hid (HL7.out.trans hA)
      have hCs : C ≤ w7.heap.size := HCW7.out
      clear hA
      go_wp2_with (at_builtin; refine wpList_append_lies _ (by rfl) _ _ _ (by rfl) C 62 i0 (.agg #[.int .i64 0, .int .i64 0, .int .i64 0, .int .i64 0]) 4 32 Try.underlying57 hi hz0 hz1 hz2 rfl (by omega) _ L.length (qCells L) (by rfl) (by exact HO8.out) ⟨w7.heap.size, 0, none⟩ 1 1 [.int .i64 p', .int .i64 q', .int .i64 r', .int .i64 s'] (by rfl) (by rfl) (World.news_of_block (cs := #[.int .i64 p', .int .i64 q', .int .i64 r', .int .i64 s']) (t := 62) (fr := (0, 0)) (heap_alloc_new w7 _)) (by simp [Value.oneCell']) (by omega) (by unfold maxLen; omega) (by omega) (by simp; omega) (w7.heap.size + 1) (by simp) ?_)
      intro g cap1 w9 hown9 hgrow hat hglt
      have HO9 := hid (show OwnQs C w9 (.slice (some ⟨g, 0, none⟩) (L.length + 1) cap1) (L ++ [(p', q', r', s')]) by
        unfold OwnQs; rw [qCells_snoc, List.length_append]; exact hown9)
      have HB9 := hid (HB8.out.keep (hgrow.block B (by simp; have := HC.out; omega) (fun e => by have := (HO8.out.lt B e.symm).1; have := HC.out; omega)))
      have HL9 := hid (show Later w w9 from HL8.out.grown hgrow (by have := HL7.out.size; simp; omega) (fun b' hb' => by have := (HO8.out.lt b' hb').1; have := HWC.out; omega))
      have HCW9 := hid (show C ≤ w9.heap.size by have := hgrow.size; simp at this; omega)
      clear hown9 hgrow hat d0 d1 d2 d3
      go_wp2_with fail
      go_roundw
      case rel => exact ⟨p', q', r', s', L ++ [(p', q', r', s')], HN.out.1, HB9.out, HO9.out, by rw [List.map_append, List.append_assoc]; show List.map qsL L ++ ([p', q', r', s'] :: belowQ [p', q', r', s']) = _; rw [← HST.out]; exact HR.out, by have h1 := HN.out.2; have h2 := (apB_sum HN.out.1).1; have h3 := HLE.out; have h4 := (apB_sum HSy.out).1; rw [List.length_append, List.length_singleton]; omega, HL9.out, HCW9.out⟩
      case measure => simp only [lenOfH]; have h1 := HN.out.2; have h2 := (apB_sum HN.out.1).1; have h3 := HLE.out; have h4 := (apB_sum HSy.out).1; omega
    · have HLB := hid hl
      have HE := hid (show L.map qsL = wayQ zs by have := HR.out; rw [belowQ_last hl, List.append_nil] at this; exact this)
      clear hl
      go_wp2_with fail
      refine (isRootS_any x y z t _ HQy.out).mono ?_
      rintro e w5 ⟨rfl, hL5⟩
      rw [HLB.out]
      have HO5 := hid ((HO.out.later hL5).base HWC.out)
      have HL5 := hid (HL.out.trans hL5)
      clear hL5 f0 f1 f2 f3 c0 c1 c2 c3
      go_wp2_with fail
      go_ret
      exact ⟨_, L, rfl, HO5.out, HE.out, HL5.out⟩
end Go.Proofs.Ytoaopmafokoaoab
