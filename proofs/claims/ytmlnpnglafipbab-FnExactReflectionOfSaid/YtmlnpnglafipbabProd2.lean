/- Contracts of ProductAt and FormAt. -/
import Derived.Test.YtmlnpnglafipbabProd
namespace Go.Proofs.Ytmlnpnglafipbab
open Go.RowKit

set_option maxHeartbeats 1000000 in
theorem foProduct_any (n : Nat) (m : List (List Int)) (hq : Sq n m) (hn : n ≤ 1048576) (xs zs : List Int) (hx : xs.length = n) (hz : zs.length = n) (u vx vz : Value) (w : World) (hu : Rows2 w u m) (h1 : Ints w vx xs) (h2 : Ints w vz zs) :
    Calls Try.prog 76 #[.agg #[u], vx, vz] w fun e w' => e = .returned (.int .i64 (dotW xs (applyW m zs))) ∧ Later w w' := by
  obtain ⟨a, cap, rfl, hl⟩ := hu.sqForm hq
  have hb0 : (w.alloc (.cells #[Value.slice a n cap] 42)).cell? ⟨w.heap.size, 0, none⟩ = some (.slice a n cap) := by simp [go_sem]
  have HU := hid (hu.later (Later.alloc w (.cells #[Value.slice a n cap] 42)))
  have H1 := hid (h1.later (Later.alloc w (.cells #[Value.slice a n cap] 42)))
  have H2 := hid (h2.later (Later.alloc w (.cells #[Value.slice a n cap] 42)))
  have HL := hid (Later.alloc w (.cells #[Value.slice a n cap] 42))
  have HX := hid hx
  have HZ := hid hz
  clear hu h1 h2 hx hz
  go_enter Try.func76, Try.ntmps76
  go_wp2_with fail
  generalize w.alloc (.cells #[Value.slice a n cap] 42) = w1 at hb0 HU H1 H2 HL ⊢
  refine (foApply_any n m hq hn zs HZ.out _ _ _ HU.out H2.out).mono ?_
  rintro e w2 ⟨v2, rfl, ho, hL⟩
  have hal : (applyW m zs).length = n := by simp [applyW, hq.1]
  obtain ⟨a2, cap2, e2, _, hc2⟩ := ho.ints
  obtain ⟨a3, cap3, e3, hlx, hc3⟩ := H1.out.later hL
  rw [hal] at e2 hc2
  rw [HX.out] at e3 hc3 hlx
  subst e2
  subst e3
  have HC2 := hid hc2
  have HC3 := hid hc3
  have HL2 := hid (HL.out.trans hL)
  have HD := hid (show dotW xs (applyW m zs) = wsum (fun i => wrap64 (xs.getD i 0 * (applyW m zs).getD i 0)) n by unfold dotW; rw [HX.out])
  clear ho hL hal hc2 hc3
  go_wp2_with fail
  go_loop [7, 14] (fun s y => ∃ j : Nat, j ≤ n ∧ y = .int .i64 j ∧ s = .int .i64 (wsum (fun i => wrap64 (xs.getD i 0 * (applyW m zs).getD i 0)) j)) (fun _ y => n - (intOf y).toNat)
  case atStart => exact ⟨0, Nat.zero_le _, rfl, rfl⟩
  case round =>
    obtain ⟨j, hj, rfl, rfl⟩ := hrel
    by_cases hjt : j < n
    · obtain ⟨ad2, rfl, hx2⟩ := HC2.out j hjt
      obtain ⟨ad3, rfl, hx3⟩ := HC3.out j hjt
      have hj2 : (j : Int) < (n : Int) := by omega
      have hw := hid (wsum_succ (fun i => wrap64 (xs.getD i 0 * (applyW m zs).getD i 0)) j)
      generalize (applyW m zs).getD j 0 = y at hw hx2
      generalize xs.getD j 0 = x at hw hx3
      generalize wsum (fun i => wrap64 (xs.getD i 0 * (applyW m zs).getD i 0)) j = s at hw ⊢
      go_wp2_with fail
      go_round
      case rel => exact ⟨j + 1, hjt, by go_num, by rw [hw.out]⟩
      case measure => simp [intOf]; omega
    · have hjn : j = n := by omega
      subst hjn
      go_wp2_with fail
      go_ret
      exact ⟨ret_int HD.out.symm, HL2.out⟩

def prodAns (m : List (List Int)) (xs zs : List Int) : Option Int := if formW m && (vecOK m.length xs && vecOK m.length zs) then some (dotW xs (applyW m zs)) else none
theorem formW_good {m : List (List Int)} (h : formW m = true) : goodM 1000 m = true ∧ goodM 1000000 m = true := by
  simp only [formW, Bool.and_eq_true] at h
  exact ⟨h.1, goodM_mono (by omega) h.1⟩
theorem matVec_form {m : List (List Int)} (h : formW m = true) (zs : List Int) : matVec m zs = vecOK m.length zs := by unfold matVec; rw [(formW_good h).2]; rfl

set_option maxHeartbeats 2000000 in
theorem implProductAt_any (u vx vz : Value) (m : List (List Int)) (xs zs : List Int) (w : World) (hu : Rows2 w u m) (h1 : Ints w vx xs) (h2 : Ints w vz zs) :
    Calls Try.prog 121 #[.agg #[u], vx, vz] w fun e w' => NumAns w (prodAns m xs zs) e w' := by
  obtain ⟨a, cap, rfl, hl, _⟩ := id hu
  have hb0 : (w.alloc (.cells #[Value.slice a m.length cap] 42)).cell? ⟨w.heap.size, 0, none⟩ = some (.slice a m.length cap) := by simp [go_sem]
  have HU := hid (hu.later (Later.alloc w (.cells #[Value.slice a m.length cap] 42)))
  have H1 := hid (h1.later (Later.alloc w (.cells #[Value.slice a m.length cap] 42)))
  have H2 := hid (h2.later (Later.alloc w (.cells #[Value.slice a m.length cap] 42)))
  have HL := hid (Later.alloc w (.cells #[Value.slice a m.length cap] 42))
  clear hu h1 h2
  go_enter Try.func121, Try.ntmps121
  go_wp2_with fail
  generalize w.alloc (.cells #[Value.slice a m.length cap] 42) = w1 at hb0 HU H1 H2 HL ⊢
  refine (isSmallForm_any _ m _ HU.out).mono ?_
  rintro e w2 ⟨rfl, hL⟩
  have hb2 := hL.cell hb0
  have HL2 := hid hL
  clear hL hb0
  cases hf : formW m
  · have HG := hid (show prodAns m xs zs = none by unfold prodAns; rw [hf]; rfl); clear hf
    go_wp2_with fail
    go_ret2
    exact ⟨by rw [HG.out]; rfl, HL.out.trans HL2.out⟩
  · have hq := hid (goodM_sq (formW_good hf).2)
    have hn4 : m.length ≤ 4 := (goodM_sq (formW_good hf).2).2.1
    have HF := hid hf
    clear hf
    go_wp2_with fail
    refine (isVector_any _ xs m.length _ (by omega) (H1.out.later HL2.out)).mono ?_
    rintro e w' ⟨rfl, rfl⟩
    cases hx : vecOK m.length xs
    · have HG := hid (show prodAns m xs zs = none by unfold prodAns; rw [HF.out, hx]; rfl); clear hx
      go_wp2_with fail
      go_ret2
      exact ⟨by rw [HG.out]; rfl, HL.out.trans HL2.out⟩
    · have HX := hid hx
      clear hx
      go_wp2_with fail
      refine (isVector_any _ zs m.length _ (by omega) (H2.out.later HL2.out)).mono ?_
      rintro e w' ⟨rfl, rfl⟩
      cases hz : vecOK m.length zs
      · have HG := hid (show prodAns m xs zs = none by unfold prodAns; rw [HF.out, HX.out, hz]; rfl); clear hz
        go_wp2_with fail
        go_ret2
        exact ⟨by rw [HG.out]; rfl, HL.out.trans HL2.out⟩
      · have HG := hid (show prodAns m xs zs = some (dotW xs (applyW m zs)) by unfold prodAns; rw [HF.out, HX.out, hz]; rfl)
        have HZ := hid hz
        clear hz
        go_wp2_with fail
        refine (appliedTo_any m.length m hq.out.2.2 (by omega) zs (vecOK_len HZ.out) _ _ _ (HU.out.later HL2.out) (H2.out.later HL2.out)).mono ?_
        rintro e w3 ⟨v3, rfl, ho, hL⟩
        have HI := hid ho.ints
        have HL3 := hid (HL2.out.trans hL)
        clear ho hL
        go_wp2_with fail
        refine (dot_any _ _ xs (applyW m zs) _ (by rw [vecOK_len HX.out]; simp [applyW]) (H1.out.later HL3.out) HI.out).mono ?_
        rintro e w5 ⟨rfl, hL⟩
        have HL5 := hid (HL3.out.trans hL)
        clear hL
        go_wp2_with fail
        go_ret2
        exact ⟨by rw [HG.out]; rfl, HL.out.trans HL5.out⟩

theorem implFormAt_any (u vx : Value) (m : List (List Int)) (xs : List Int) (w : World) (hu : Rows2 w u m) (h1 : Ints w vx xs) :
    Calls Try.prog 80 #[.agg #[u], vx] w fun e w' => NumAns w (prodAns m xs xs) e w' := by
  obtain ⟨a, cap, rfl, hl, _⟩ := id hu
  have HU := hid (hu.later (Later.alloc w (.cells #[Value.slice a m.length cap] 42)))
  have H1 := hid (h1.later (Later.alloc w (.cells #[Value.slice a m.length cap] 42)))
  have HL := hid (Later.alloc w (.cells #[Value.slice a m.length cap] 42))
  clear hu h1
  go_enter Try.func80, Try.ntmps80
  go_wp2_with fail
  refine (implProductAt_any _ _ _ m xs xs _ HU.out H1.out H1.out).mono ?_
  rintro e w2 ⟨rfl, hL⟩
  have HL2 := hid (HL.out.trans hL)
  clear hL
  go_wp2_with fail
  go_ret2
  exact ⟨rfl, HL2.out⟩
end Go.Proofs.Ytmlnpnglafipbab
