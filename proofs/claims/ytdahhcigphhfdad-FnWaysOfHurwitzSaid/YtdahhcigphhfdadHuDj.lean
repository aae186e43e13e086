/- Equations of Hurwitz: WayDown, FundamentalOf (the program). -/
import Derived.Test.YtdahhcigphhfdadHuDi
namespace Go.Proofs.Ytdahhcigphhfdad
open Go.RowKit

set_option maxRecDepth 20000 in
set_option maxHeartbeats 4000000 in
theorem implWayDown_any (v : Value) (zs : List Int) (a b : Int) (w : World) (h : Ints w v zs) :
    Calls Try.prog 17 #[v, .int .i64 a, .int .i64 b] w fun e w' => RowsAns w (wayAns zs a b) e w' := by
  obtain ⟨p, cap, rfl, hl, _⟩ := id h
  have H := hid h
  clear h
  cases hs : (givenB a b && solB zs a b)
  · have HS := hid hs
    have HA := hid (show wayAns zs a b = none by unfold wayAns; rw [hs]; simp)
    clear hs
    go_enter Try.func17, Try.ntmps17
    go_wp2_with fail
    refine (solutionOf_no _ zs a b _ HS.out H.out).mono ?_
    rintro e w1 ⟨rfl, hL⟩
    have HL := hid (hL.trans (Later.alloc w1 (.cells #[.int .i64 0, .int .i64 0, .int .i64 0, .int .i64 0] 49)))
    clear hL
    go_wp2_with fail
    go_ret2
    rw [HA.out]
    exact ⟨_, rfl, OwnRows.noneH _ _ _, HL.out⟩
  · have hS := Sol.good hs
    have HS := hid hS
    obtain ⟨x, y, z, t, rfl, hq⟩ := hS.q4
    have HQ := hid hq
    have HA := hid (show wayAns (qL x y z t) a b = some (wayL a (qL x y z t)) by unfold wayAns; rw [if_pos hs])
    have HWL := hid hS.way_len
    clear hs hS hq
    go_enter Try.func17, Try.ntmps17
    go_wp2_with fail
    refine (solutionOf_yes _ x y z t a b _ HS.out HQ.out H.out).mono ?_
    rintro e w1 ⟨rfl, hL⟩
    obtain ⟨c0, c1, c2, c3⟩ := arr4_alloc w1 x y z t
    have HL := hid (hL.trans (Later.alloc w1 (.cells #[.int .i64 x, .int .i64 y, .int .i64 z, .int .i64 t] 49)))
    clear hL
    go_wp2_with fail
    generalize w1.alloc (.cells #[.int .i64 x, .int .i64 y, .int .i64 z, .int .i64 t] 49) = w2 at c0 c1 c2 c3 HL ⊢
    refine (wayDownS_any x y z t a b _ HS.out HQ.out).mono ?_
    rintro e w3 ⟨v3, L, rfl, ho, hm, _, hL3⟩
    have hlen : L.length ≤ 400000 := by have := HWL.out; rw [← hm, List.length_map] at this; exact this
    have HSO := hid (ho.sols (by omega))
    obtain ⟨a3, c3', rfl, _⟩ := ho.shape
    have HM := hid hm
    have HL3 := hid (HL.out.trans hL3)
    clear hL3 ho hm c0 c1 c2 c3
    go_wp2_with fail
    refine (listsOfS_any _ L _ (by omega) HSO.out).mono ?_
    rintro e w4 ⟨v4, rfl, ho4, hL4⟩
    rw [HM.out] at ho4
    obtain ⟨a4, c4, rfl, _⟩ := ho4.shape
    have HO4 := hid (ho4.wide HL3.out.size (Nat.le_refl _))
    have HL4 := hid (HL3.out.trans hL4)
    clear ho4 hL4
    go_wp2_with fail
    go_ret2
    rw [HA.out]
    exact ⟨_, rfl, HO4.out, HL4.out⟩
set_option maxRecDepth 20000 in
set_option maxHeartbeats 4000000 in
theorem implFundamentalOf_any (v : Value) (zs : List Int) (a b : Int) (w : World) (h : Ints w v zs) :
    Calls Try.prog 19 #[v, .int .i64 a, .int .i64 b] w fun e w' => IntsAns w (fundLAns zs a b) e w' := by
  obtain ⟨p, cap, rfl, hl, _⟩ := id h
  have H := hid h
  clear h
  cases hs : (givenB a b && solB zs a b)
  · have HS := hid hs
    have HA := hid (show fundLAns zs a b = none by unfold fundLAns; rw [hs]; simp)
    clear hs
    go_enter Try.func19, Try.ntmps19
    go_wp2_with fail
    refine (solutionOf_no _ zs a b _ HS.out H.out).mono ?_
    rintro e w1 ⟨rfl, hL⟩
    have HL := hid (hL.trans (Later.alloc w1 (.cells #[.int .i64 0, .int .i64 0, .int .i64 0, .int .i64 0] 49)))
    clear hL
    go_wp2_with fail
    go_ret2
    rw [HA.out]
    exact ⟨_, rfl, OwnInts.nothing0 _ _ _, HL.out⟩
  · have hS := Sol.good hs
    have HS := hid hS
    obtain ⟨x, y, z, t, rfl, hq⟩ := hS.q4
    have HQ := hid hq
    have HA := hid (show fundLAns (qL x y z t) a b = some ((wayL a (qL x y z t)).getD ((wayL a (qL x y z t)).length - 1) []) by unfold fundLAns; rw [if_pos hs])
    have HWL := hid hS.way_len
    have HW1 := hid (show 1 ≤ (wayL a (qL x y z t)).length by unfold wayL; simp)
    clear hs hS hq
    go_enter Try.func19, Try.ntmps19
    go_wp2_with fail
    refine (solutionOf_yes _ x y z t a b _ HS.out HQ.out H.out).mono ?_
    rintro e w1 ⟨rfl, hL⟩
    obtain ⟨c0, c1, c2, c3⟩ := arr4_alloc w1 x y z t
    have HL := hid (hL.trans (Later.alloc w1 (.cells #[.int .i64 x, .int .i64 y, .int .i64 z, .int .i64 t] 49)))
    clear hL
    go_wp2_with fail
    generalize w1.alloc (.cells #[.int .i64 x, .int .i64 y, .int .i64 z, .int .i64 t] 49) = w2 at c0 c1 c2 c3 HL ⊢
    refine (wayDownS_any x y z t a b _ HS.out HQ.out).mono ?_
    rintro e w3 ⟨v3, L, rfl, ho, hm, _, hL3⟩
    have hlen : L.length ≤ 400000 := by have := HWL.out; rw [← hm, List.length_map] at this; exact this
    have hlen1 : 1 ≤ L.length := by have := HW1.out; rw [← hm, List.length_map] at this; exact this
    have hso := ho.sols (by omega)
    obtain ⟨n, hn⟩ : ∃ n, L.length = n + 1 := ⟨L.length - 1, by omega⟩
    obtain ⟨a3, c3', rfl, _, hcs⟩ := hso
    obtain ⟨g, rfl, d0, d1, d2, d3⟩ := hcs n (by omega)
    obtain ⟨⟨p', q', r', s'⟩, hs'⟩ : ∃ s, L[n] = s := ⟨_, rfl⟩
    have HE := hid (show (wayL a (qL x y z t)).getD ((wayL a (qL x y z t)).length - 1) [] = qL p' q' r' s' by
      rw [← hm, List.length_map, hn, Nat.add_sub_cancel]
      simp [hn, hs', soL])
    rw [hs'] at d0 d1 d2 d3
    have HL3 := hid (HL.out.trans hL3)
    have hnb : (n : Int) ≤ 400000 := by omega
    rw [hn]
    simp only at d0 d1 d2 d3
    clear hL3 ho hm c0 c1 c2 c3 hs' hcs hn hlen hlen1
    go_wp2_with fail
    refine (listS_any p' q' r' s' _).mono ?_
    rintro e w4 ⟨v4, rfl, ho4, hL4⟩
    have HO4 := hid (ho4.wide HL3.out.size (Nat.le_refl _))
    have HL4 := hid (HL3.out.trans hL4)
    clear ho4 hL4
    go_wp2_with fail
    go_ret2
    rw [HA.out, HE.out]
    exact ⟨_, rfl, HO4.out, HL4.out⟩
end Go.Proofs.Ytdahhcigphhfdad
