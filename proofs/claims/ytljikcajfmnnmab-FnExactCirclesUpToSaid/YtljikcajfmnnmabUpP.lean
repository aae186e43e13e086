/- CgP: in one text. -/
import Derived.Test.YtljikcajfmnnmabUpB
import Derived.Test.YtljikcajfmnnmabUpCb
import Derived.Test.YtljikcajfmnnmabUpCa
namespace Go.Proofs.Ytljikcajfmnnmab
open Go.RowKit


theorem wpList_loadKg {P : Program} (w : World) {ops : Array Oper} {rest : List Oper} {o : Oper} {a : Act} {Q : Exit → Act → World → Prop} (hg : Region.wanted o (yielded ops a.tmps) = true) (t : TypeId) (x : Operand) (hop : o.op = Op.load t x)
    (ad : Addr) (hx : a.eval x = .pointer (some ad)) (hagg : ∀ w, (isAgg t).run P w = .ok true w) (n : Nat) (hsz : ∀ w, (sizeOf t).run P w = .ok n w) (A : Array Value) (hld : Sem.run P (loadCells ad n) w = .ok A w)
    (h : wpList P ops Q rest (a.put o.dst (.agg A)) w) : wpList P ops Q (o :: rest) a w := by
  refine wpList_step fun K hK' => ?_
  rw [if_pos hg]
  unfold Oper.wp
  simp [execOp, hop, hx, Instr.loadAt, Instr.sureAddr, loadVar, hagg, hsz, hld]
  exact hK' _ _ h
set_option maxRecDepth 20000 in
set_option maxHeartbeats 2000000 in
theorem upP_no1 (v : Value) (L : List Ci4) (most : Int) (w : World) (h : Cis w v L) (hc : confB L = false) :
    Calls Try.prog 35 #[v, .int .i64 most] w fun e w' => CisAns w none e w' := by
  obtain ⟨a, cap, rfl, _⟩ := id h
  have hA := Later.alloc w (.cells #[.int .i64 most] 3)
  have HL := hid hA
  have H := hid (h.later hA)
  have HC := hid (show (w.alloc (.cells #[.int .i64 most] 3)).cell? ⟨w.heap.size, 0, none⟩ = some (.int .i64 most) by simp [go_sem])
  have HF := hid hc
  clear h hA hc
  go_enter Try.func35, Try.ntmps35
  go_wp2_with fail
  generalize w.alloc (.cells #[.int .i64 most] 3) = w1 at HL H HC ⊢
  refine (configOf_no _ L _ H.out HF.out).mono ?_
  rintro e w2 ⟨rfl, hL2⟩
  have hK0 := KBlk.new w2 zL
  rw [zL_kA] at hK0
  obtain ⟨w3, hw3⟩ : ∃ w3, (w2.alloc (.cells #[.int .i64 0, .int .i64 0, .int .i64 0, .int .i64 0, .int .i64 0, .int .i64 0, .int .i64 0, .int .i64 0, .int .i64 0, .int .i64 0, .int .i64 0, .int .i64 0, .int .i64 0, .int .i64 0, .int .i64 0, .int .i64 0] 60)).setRow w2.heap.size (kA zL) = w3 := ⟨_, rfl⟩
  have HST3 := hid (hK0.store (L' := zL) rfl rfl)
  rw [hw3] at HST3
  have HK3 := hid (show KBlk w3 w2.heap.size zL by rw [← hw3]; exact hK0.set _)
  have HL3 := hid (show Later w1 w3 from hL2.trans (by rw [← hw3]; exact setRow_later (Later.alloc w2 (.cells #[.int .i64 0, .int .i64 0, .int .i64 0, .int .i64 0, .int .i64 0, .int .i64 0, .int .i64 0, .int .i64 0, .int .i64 0, .int .i64 0, .int .i64 0, .int .i64 0, .int .i64 0, .int .i64 0, .int .i64 0, .int .i64 0] 60)) (Nat.le_refl _) _))
  have c3 := HL3.out.cell HC.out
  have HL03 := hid (HL.out.trans HL3.out)
  clear hL2 hK0 hw3
  go_wp2_with (refine wpList_storeK _ w3 (by rfl) 60 _ _ (by rfl) ⟨w2.heap.size, 0, none⟩ (by rfl) (.agg (kA zL)) (by rfl) (by exact HST3.out) (fun u => ?_))
  have HLZ := hid HL03.out
  go_ret2
  exact ⟨_, rfl, OwnCis.nothing _ _ _, HLZ.out⟩
set_option maxRecDepth 20000 in
set_option maxHeartbeats 2000000 in
theorem upP_no2 (v : Value) (L : List Ci4) (most : Int) (w : World) (h : Cis w v L) (hc : confB L = true) (hm : most < 1 ∨ 60 < most) :
    Calls Try.prog 35 #[v, .int .i64 most] w fun e w' => CisAns w none e w' := by
  obtain ⟨a, cap, rfl, _⟩ := id h
  have hA := Later.alloc w (.cells #[.int .i64 most] 3)
  have HL := hid hA
  have H := hid (h.later hA)
  have HC := hid (show (w.alloc (.cells #[.int .i64 most] 3)).cell? ⟨w.heap.size, 0, none⟩ = some (.int .i64 most) by simp [go_sem])
  have HF := hid hc
  have HN := hid (fourB_len (confB_four hc))
  clear h hA hc
  go_enter Try.func35, Try.ntmps35
  go_wp2_with fail
  generalize w.alloc (.cells #[.int .i64 most] 3) = w1 at HL H HC ⊢
  refine (configOf_yes _ L _ H.out HF.out).mono ?_
  rintro e w2 ⟨rfl, hL2⟩
  have hK0 := KBlk.new w2 zL
  rw [zL_kA] at hK0
  obtain ⟨w3, hw3⟩ : ∃ w3, (w2.alloc (.cells #[.int .i64 0, .int .i64 0, .int .i64 0, .int .i64 0, .int .i64 0, .int .i64 0, .int .i64 0, .int .i64 0, .int .i64 0, .int .i64 0, .int .i64 0, .int .i64 0, .int .i64 0, .int .i64 0, .int .i64 0, .int .i64 0] 60)).setRow w2.heap.size (kA L) = w3 := ⟨_, rfl⟩
  have HST3 := hid (hK0.store (L' := L) rfl HN.out)
  rw [hw3] at HST3
  have HK3 := hid (show KBlk w3 w2.heap.size L by rw [← hw3]; exact hK0.set _)
  have HL3 := hid (show Later w1 w3 from hL2.trans (by rw [← hw3]; exact setRow_later (Later.alloc w2 (.cells #[.int .i64 0, .int .i64 0, .int .i64 0, .int .i64 0, .int .i64 0, .int .i64 0, .int .i64 0, .int .i64 0, .int .i64 0, .int .i64 0, .int .i64 0, .int .i64 0, .int .i64 0, .int .i64 0, .int .i64 0, .int .i64 0] 60)) (Nat.le_refl _) _))
  have c3 := HL3.out.cell HC.out
  have HL03 := hid (HL.out.trans HL3.out)
  clear hL2 hK0 hw3
  rcases hm with hm | hm
  · go_wp2_with (refine wpList_storeK _ w3 (by rfl) 60 _ _ (by rfl) ⟨w2.heap.size, 0, none⟩ (by rfl) (.agg (kA L)) (by rfl) (by exact HST3.out) (fun u => ?_))
    have HLZ := hid HL03.out
    go_ret2
    exact ⟨_, rfl, OwnCis.nothing _ _ _, HLZ.out⟩
  · have hm1 : ¬ most < 1 := by omega
    have hd1 : decide (most < 1) = false := decide_eq_false hm1
    go_wp2_with (refine wpList_storeK _ w3 (by rfl) 60 _ _ (by rfl) ⟨w2.heap.size, 0, none⟩ (by rfl) (.agg (kA L)) (by rfl) (by exact HST3.out) (fun u => ?_))
    have HLZ := hid HL03.out
    go_ret2
    exact ⟨_, rfl, OwnCis.nothing _ _ _, HLZ.out⟩
set_option maxRecDepth 20000 in
set_option maxHeartbeats 2000000 in
theorem upP_no3 (v : Value) (L : List Ci4) (most : Int) (w : World) (h : Cis w v L) (hc : confB L = true) (hm1 : ¬ most < 1) (hm2 : ¬ 60 < most) (hi : insideB (curvL L) = false) :
    Calls Try.prog 35 #[v, .int .i64 most] w fun e w' => CisAns w none e w' := by
  obtain ⟨a, cap, rfl, _⟩ := id h
  have hA := Later.alloc w (.cells #[.int .i64 most] 3)
  have HL := hid hA
  have H := hid (h.later hA)
  have HC := hid (show (w.alloc (.cells #[.int .i64 most] 3)).cell? ⟨w.heap.size, 0, none⟩ = some (.int .i64 most) by simp [go_sem])
  have HF := hid hc
  have HN := hid (fourB_len (confB_four hc))
  have HI := hid hi
  have hd1 : decide (most < 1) = false := decide_eq_false hm1
  have hd2 : decide (60 < most) = false := decide_eq_false hm2
  clear hi
  clear h hA hc
  go_enter Try.func35, Try.ntmps35
  go_wp2_with fail
  generalize w.alloc (.cells #[.int .i64 most] 3) = w1 at HL H HC ⊢
  refine (configOf_yes _ L _ H.out HF.out).mono ?_
  rintro e w2 ⟨rfl, hL2⟩
  have hK0 := KBlk.new w2 zL
  rw [zL_kA] at hK0
  obtain ⟨w3, hw3⟩ : ∃ w3, (w2.alloc (.cells #[.int .i64 0, .int .i64 0, .int .i64 0, .int .i64 0, .int .i64 0, .int .i64 0, .int .i64 0, .int .i64 0, .int .i64 0, .int .i64 0, .int .i64 0, .int .i64 0, .int .i64 0, .int .i64 0, .int .i64 0, .int .i64 0] 60)).setRow w2.heap.size (kA L) = w3 := ⟨_, rfl⟩
  have HST3 := hid (hK0.store (L' := L) rfl HN.out)
  rw [hw3] at HST3
  have HK3 := hid (show KBlk w3 w2.heap.size L by rw [← hw3]; exact hK0.set _)
  have HL3 := hid (show Later w1 w3 from hL2.trans (by rw [← hw3]; exact setRow_later (Later.alloc w2 (.cells #[.int .i64 0, .int .i64 0, .int .i64 0, .int .i64 0, .int .i64 0, .int .i64 0, .int .i64 0, .int .i64 0, .int .i64 0, .int .i64 0, .int .i64 0, .int .i64 0, .int .i64 0, .int .i64 0, .int .i64 0, .int .i64 0] 60)) (Nat.le_refl _) _))
  have c3 := HL3.out.cell HC.out
  have HL03 := hid (HL.out.trans HL3.out)
  clear hL2 hK0 hw3
  go_wp2_with (first | (refine wpList_storeK _ w3 (by rfl) 60 _ _ (by rfl) ⟨w2.heap.size, 0, none⟩ (by rfl) (.agg (kA L)) (by rfl) (by exact HST3.out) (fun u => ?_)) | (refine wpList_loadKg _ (by rfl) 60 _ (by rfl) ⟨w2.heap.size, 0, none⟩ (by rfl) Try.isAgg60 16 Try.sizeOf60 (kA L) (by exact HK3.out.load HN.out) ?_))
  refine (curvatures_any L _ HN.out).mono ?_
  rintro e w4 ⟨v4, rfl, hO, hL4⟩
  have HLQ := hid (HL03.out.trans hL4)
  have HIN := hid hO.ints
  clear hO hL4
  go_wp2_with fail
  refine (isRootInside_any _ _ _ HIN.out).mono ?_
  rintro e w5 ⟨rfl, hL5⟩
  have HLZ := hid (HLQ.out.trans hL5)
  rw [HI.out]
  clear hL5
  go_wp2_with fail
  go_ret2
  exact ⟨_, rfl, OwnCis.nothing _ _ _, HLZ.out⟩
set_option maxRecDepth 20000 in
set_option maxHeartbeats 2000000 in
theorem upP_yes (v : Value) (L : List Ci4) (most : Int) (w : World) (h : Cis w v L) (hc : confB L = true) (hm1 : ¬ most < 1) (hm2 : ¬ 60 < most) (hi : insideB (curvL L) = true) :
    Calls Try.prog 35 #[v, .int .i64 most] w fun e w' => CisAns w (upAns L most) e w' := by
  obtain ⟨a, cap, rfl, _⟩ := id h
  have hA := Later.alloc w (.cells #[.int .i64 most] 3)
  have HL := hid hA
  have H := hid (h.later hA)
  have HC := hid (show (w.alloc (.cells #[.int .i64 most] 3)).cell? ⟨w.heap.size, 0, none⟩ = some (.int .i64 most) by simp [go_sem])
  have HF := hid hc
  have HN := hid (fourB_len (confB_four hc))
  have HI := hid hi
  have HOK := hid (show upOk L most = true by unfold upOk; rw [hc, hi]; simp [within]; omega)
  have HM := hid hm2
  have hd1 : decide (most < 1) = false := decide_eq_false hm1
  have hd2 : decide (60 < most) = false := decide_eq_false hm2
  clear hi
  clear h hA hc
  go_enter Try.func35, Try.ntmps35
  go_wp2_with fail
  generalize w.alloc (.cells #[.int .i64 most] 3) = w1 at HL H HC ⊢
  refine (configOf_yes _ L _ H.out HF.out).mono ?_
  rintro e w2 ⟨rfl, hL2⟩
  have hK0 := KBlk.new w2 zL
  rw [zL_kA] at hK0
  obtain ⟨w3, hw3⟩ : ∃ w3, (w2.alloc (.cells #[.int .i64 0, .int .i64 0, .int .i64 0, .int .i64 0, .int .i64 0, .int .i64 0, .int .i64 0, .int .i64 0, .int .i64 0, .int .i64 0, .int .i64 0, .int .i64 0, .int .i64 0, .int .i64 0, .int .i64 0, .int .i64 0] 60)).setRow w2.heap.size (kA L) = w3 := ⟨_, rfl⟩
  have HST3 := hid (hK0.store (L' := L) rfl HN.out)
  rw [hw3] at HST3
  have HK3 := hid (show KBlk w3 w2.heap.size L by rw [← hw3]; exact hK0.set _)
  have HL3 := hid (show Later w1 w3 from hL2.trans (by rw [← hw3]; exact setRow_later (Later.alloc w2 (.cells #[.int .i64 0, .int .i64 0, .int .i64 0, .int .i64 0, .int .i64 0, .int .i64 0, .int .i64 0, .int .i64 0, .int .i64 0, .int .i64 0, .int .i64 0, .int .i64 0, .int .i64 0, .int .i64 0, .int .i64 0, .int .i64 0] 60)) (Nat.le_refl _) _))
  have c3 := HL3.out.cell HC.out
  have HL03 := hid (HL.out.trans HL3.out)
  clear hL2 hK0 hw3
  go_wp2_with (first | (refine wpList_storeK _ w3 (by rfl) 60 _ _ (by rfl) ⟨w2.heap.size, 0, none⟩ (by rfl) (.agg (kA L)) (by rfl) (by exact HST3.out) (fun u => ?_)) | (refine wpList_loadKg _ (by rfl) 60 _ (by rfl) ⟨w2.heap.size, 0, none⟩ (by rfl) Try.isAgg60 16 Try.sizeOf60 (kA L) (by exact HK3.out.load HN.out) ?_))
  refine (curvatures_any L _ HN.out).mono ?_
  rintro e w4 ⟨v4, rfl, hO, hL4⟩
  have HL4 := hid (HL3.out.trans hL4)
  have HK4 := hid (HK3.out.later hL4)
  have HIN := hid hO.ints
  clear hO hL4 c3
  go_wp2_with fail
  refine (isRootInside_any _ _ _ HIN.out).mono ?_
  rintro e w5 ⟨rfl, hL5⟩
  have HL5 := hid (HL4.out.trans hL5)
  have HK5 := hid (HK4.out.later hL5)
  rw [HI.out]
  clear hL5
  go_wp2_with (refine wpList_loadK _ (by rfl) 60 _ (by rfl) ⟨w2.heap.size, 0, none⟩ (by rfl) Try.isAgg60 16 Try.sizeOf60 (kA L) (by exact HK5.out.load HN.out) ?_)
  refine (toldBySwaps_any L most w.heap.size _ (by have := HM.out; omega) (dep0_of HOK.out) (HL5.out.cell HC.out)).mono ?_
  rintro e w6 ⟨v6, rfl, hO6, hL6⟩
  have HO6 := hid (show OwnCis w5.heap.size w6.heap.size w6 v6 (upR L most) from hO6)
  have HL6 := hid ((HL.out.trans HL5.out).trans hL6)
  have HLW := hid (HL.out.trans HL5.out).size
  have hans : upAns L most = if (upR L most).length ≤ 300 ∧ (upR L most).all ciB = true then some (upR L most) else none := by
    unfold upAns
    simp only [HOK.out, true_and]
  have HAN := hid hans
  obtain ⟨R, hR⟩ : ∃ R, upR L most = R := ⟨_, rfl⟩
  rw [hR] at HO6 HAN
  clear hO6 hL6 hans hR
  obtain ⟨r1, r2, rfl, _⟩ := HO6.out.shape
  by_cases hlen : R.length ≤ 300
  · have hl2 : ¬ (300 : Int) < (R.length : Int) := by omega
    go_wp2_with fail
    refine (areCircles_any _ R _ HO6.out.cis).mono ?_
    rintro e w7 ⟨rfl, hL7⟩
    have HO7 := hid ((HO6.out.later hL7).wide HLW.out hL7.size)
    have HLZ := hid (HL6.out.trans hL7)
    clear hL7
    cases hall : R.all ciB
    · have HA := hid (HAN.out.trans (if_neg (by rw [hall]; simp)))
      clear hall
      go_wp2_with fail
      go_ret2
      exact ⟨_, by rw [HA.out]; rfl, by rw [HA.out]; exact OwnCis.nothing _ _ _, HLZ.out⟩
    · have HA := hid (HAN.out.trans (if_pos ⟨hlen, hall⟩))
      clear hall
      go_wp2_with fail
      go_ret2
      exact ⟨_, by rw [HA.out]; rfl, by rw [HA.out]; exact HO7.out, HLZ.out⟩
  · have hl2 : (300 : Int) < (R.length : Int) := by omega
    have HA := hid (HAN.out.trans (if_neg (fun h => hlen h.1)))
    go_wp2_with fail
    go_ret2
    exact ⟨_, by rw [HA.out]; rfl, by rw [HA.out]; exact OwnCis.nothing _ _ _, HL6.out⟩
theorem upP_any (v : Value) (L : List Ci4) (most : Int) (w : World) (h : Cis w v L) :
    Calls Try.prog 35 #[v, .int .i64 most] w fun e w' => CisAns w (upAns L most) e w' := by
  have no (hn : upOk L most = false) : upAns L most = none := by unfold upAns; rw [hn]; simp
  cases hc : confB L
  · rw [no (by unfold upOk; rw [hc]; rfl)]
    exact upP_no1 v L most w h hc
  · by_cases hm : most < 1 ∨ 60 < most
    · rw [no (by unfold upOk; rw [show within 1 60 most = false by simp [within]; omega]; simp)]
      exact upP_no2 v L most w h hc hm
    · cases hi : insideB (curvL L)
      · rw [no (by unfold upOk; rw [hi]; simp)]
        exact upP_no3 v L most w h hc (by omega) (by omega) hi
      · exact upP_yes v L most w h hc (by omega) (by omega) hi
end Go.Proofs.Ytljikcajfmnnmab
