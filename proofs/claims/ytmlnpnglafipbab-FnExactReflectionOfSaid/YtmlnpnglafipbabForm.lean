/- Contracts of foSame, foSmall, foForm (the model), isSmallForm (the program), IsSymmetric. -/
import Derived.Test.YtmlnpnglafipbabSame
import Derived.Deep.RegionHeld3
import Derived.Deep.RegionWith
namespace Go.Proofs.Ytmlnpnglafipbab
open Go.RowKit

theorem within_mono {M M' : Int} (h : M ≤ M') (z : Int) (hz : within (-M) M z = true) : within (-M') M' z = true := by
  simp only [within, Bool.and_eq_true, decide_eq_true_eq] at hz ⊢; omega
theorem goodM_mono {M M' : Int} (h : M ≤ M') {m : List (List Int)} (hg : goodM M m = true) : goodM M' m = true := by
  have hq := goodM_sq hg
  rw [goodM_eq _ _ ⟨hq.1, hq.2.1⟩, List.all_eq_true] at hg ⊢
  intro r hr
  have := hg r hr
  simp only [rowGood, Bool.and_eq_true, decide_eq_true_eq, List.all_eq_true] at this ⊢
  exact ⟨this.1, fun z hz => within_mono h z (this.2 z hz)⟩

set_option maxHeartbeats 1000000 in
theorem foSame_any (u v : Value) (xs ys : List (List Int)) (w : World) (hl : xs.length = ys.length) (hx : Rows2 w u xs) (hy : Rows2 w v ys) :
    Calls Try.prog 66 #[.agg #[u], .agg #[v]] w fun e w' => e = .returned (.bool (eqLL xs ys)) ∧ Later w w' := by
  obtain ⟨a, cap, rfl, hl1, _⟩ := id hx
  obtain ⟨b, cap2, rfl, hl2, _⟩ := id hy
  have hA := (Later.alloc w (.cells #[Value.slice a xs.length cap] 42)).trans (Later.alloc _ (.cells #[Value.slice b ys.length cap2] 42))
  have hb0 : ((w.alloc (.cells #[Value.slice a xs.length cap] 42)).alloc (.cells #[Value.slice b ys.length cap2] 42)).cell? ⟨w.heap.size, 0, none⟩ = some (.slice a xs.length cap) := by simp [go_sem]
  have hb1 : ((w.alloc (.cells #[Value.slice a xs.length cap] 42)).alloc (.cells #[Value.slice b ys.length cap2] 42)).cell? ⟨w.heap.size + 1, 0, none⟩ = some (.slice b ys.length cap2) := by simp [go_sem]
  obtain ⟨a', c', e1, _, hc⟩ := hx.later hA
  obtain ⟨b', d', e2, _, hc2⟩ := hy.later hA
  simp only [Value.slice.injEq, true_and] at e1 e2
  obtain ⟨rfl, rfl⟩ := e1
  obtain ⟨rfl, rfl⟩ := e2
  have HC := hid hc
  have HC2 := hid hc2
  have HA := hid hA
  have HL := hid hl
  have hle : xs.length ≤ ys.length := by omega
  have heql : ((xs.length : Int) == (ys.length : Int)) = true := by simp [hl]
  clear hx hy hc hc2 hA hl
  go_enter Try.func66, Try.ntmps66
  go_wp2_with fail
  generalize (w.alloc (.cells #[Value.slice a xs.length cap] 42)).alloc (.cells #[Value.slice b ys.length cap2] 42) = w1 at hb0 hb1 HC HC2 HA ⊢
  go_loopw [10] (fun i wr => ∃ k : Nat, k ≤ xs.length ∧ i = .int .i64 k ∧ xs.take k = ys.take k ∧ Drew w1 wr) (fun i _ => xs.length - (intOf i).toNat)
  case atStart => exact ⟨0, Nat.zero_le _, rfl, rfl, Drew.refl w1⟩
  case round =>
    obtain ⟨k, hk, rfl, heq, hdr⟩ := hrel
    have HD := hid hdr
    have HE := hid heq; clear heq
    have hb1r := hdr.later.cell hb1
    have hb0r := hdr.later.cell hb0
    clear hdr
    by_cases hlt : k < xs.length
    · have hlt2 : k < ys.length := by omega
      obtain ⟨ad, u1, rfl, hcell, hu1⟩ := HC.out k hlt
      obtain ⟨ad2, u2, rfl, hcell2, hu2⟩ := HC2.out k hlt2
      have hi1 : (k : Int) < (xs.length : Int) := by omega
      have hi2 : (k : Int) < (ys.length : Int) := by omega
      have HU1 := hid (hu1.later HD.out.later)
      have HU2 := hid (hu2.later HD.out.later)
      have hcellr := HD.out.later.cell hcell
      have hcellr2 := HD.out.later.cell hcell2
      clear hu1 hu2 hcell hcell2
      cases hv : eqL (xs.getD k []) (ys.getD k [])
      · have HV := hid hv; clear hv
        go_wp2_with fail
        refine (l1Same_as HV.out HU1.out HU2.out).mono ?_
        rintro e w2 ⟨rfl, n, rfl⟩
        go_wp2_with fail
        go_ret
        exact ⟨ret_bool (eqLL_false k HV.out).symm, HA.out.trans (HD.out.step n).later⟩
      · have HV := hid hv; clear hv
        go_wp2_with fail
        refine (l1Same_as HV.out HU1.out HU2.out).mono ?_
        rintro e w2 ⟨rfl, n, rfl⟩
        go_wp2_with fail
        go_roundw
        case rel => exact ⟨k + 1, hlt, by go_num, by
            have h3 := HV.out
            unfold eqL at h3
            rw [decide_eq_true_iff] at h3
            simp only [List.getD_eq_getElem?_getD, List.getElem?_eq_getElem hlt, List.getElem?_eq_getElem hlt2, Option.getD_some] at h3
            rw [take_snoc xs k hlt, take_snoc ys k hlt2, HE.out, h3], HD.out.step n⟩
        case measure => simp [intOf]; omega
    · go_wp2_with fail
      go_ret
      exact ⟨ret_bool (by symm; unfold eqLL; rw [decide_eq_true_iff, ← take_all xs k (by omega), HE.out, take_all ys k (by have := HL.out; omega)]), HA.out.trans HD.out.later⟩

set_option maxHeartbeats 1000000 in
theorem foSmall_any (v : Value) (m : List (List Int)) (M : Int) (w : World) (hM : 0 ≤ M ∧ M ≤ 1000000) (h : Rows2 w v m) :
    Calls Try.prog 64 #[.agg #[v], .int .i64 M] w fun e w' => e = .returned (.bool (goodM M m)) ∧ Later w w' := by
  obtain ⟨a, cap, rfl, hl, _⟩ := id h
  obtain ⟨hM0, hM1⟩ := hM
  have hb0 : (w.alloc (.cells #[Value.slice a m.length cap] 42)).cell? ⟨w.heap.size, 0, none⟩ = some (.slice a m.length cap) := by simp [go_sem]
  have HR := hid (h.later (Later.alloc w (.cells #[Value.slice a m.length cap] 42)))
  have HL := hid (Later.alloc w (.cells #[Value.slice a m.length cap] 42))
  clear h
  go_enter Try.func64, Try.ntmps64
  go_wp2_with fail
  generalize w.alloc (.cells #[Value.slice a m.length cap] 42) = w1 at hb0 HR HL ⊢
  refine (foGood_any _ m _ HR.out).mono ?_
  rintro e w2 ⟨rfl, hL⟩
  have hb2 := hL.cell hb0
  have HR2 := hid (HR.out.later hL)
  have HL2 := hid (HL.out.trans hL)
  clear hL hb0
  cases hg : goodM 1000000 m
  · have HG := hid (show goodM M m = false by
      cases hgm : goodM M m
      · rfl
      · rw [goodM_mono hM1 hgm] at hg; cases hg)
    clear hg
    go_wp2_with fail
    go_ret
    exact ⟨ret_bool HG.out.symm, HL2.out⟩
  · have hsq := hid (goodM_sq hg)
    have hn4 : m.length ≤ 4 := (goodM_sq hg).2.1
    clear hg
    go_wp2_with fail
    obtain ⟨a', c', e1, _, hc⟩ := HR2.out
    simp only [Value.slice.injEq, true_and] at e1
    obtain ⟨rfl, rfl⟩ := e1
    have HC := hid hc
    clear hc
    go_loop [13] (fun i => ∃ k : Nat, k ≤ m.length ∧ i = .int .i64 k ∧ (m.take k).all (rowGood M m.length) = true) (fun i => m.length - (intOf i).toNat)
    case atStart => exact ⟨0, Nat.zero_le _, rfl, rfl⟩
    case round =>
      obtain ⟨k, hk, rfl, hal⟩ := hrel
      have HA := hid hal; clear hal
      by_cases hlt : k < m.length
      · obtain ⟨ad, u, rfl, hcell, hu⟩ := HC.out k hlt
        have hlen := hid (show m[k].length = m.length by have := hsq.out.2.2.2 k hlt; rwa [getD_row m k hlt] at this)
        rw [getD_row m k hlt] at hu
        have HU := hid hu
        clear hu
        cases hb : m[k].all (within (-M) M)
        · have HB := hid hb; clear hb
          go_wp2_with fail
          refine (l1All_as _ _ _ _ _ _ HB.out HU.out).mono ?_
          rintro e w' ⟨rfl, rfl⟩
          go_wp2_with fail
          go_ret
          exact ⟨ret_bool (by rw [goodM_eq _ _ ⟨hsq.out.1, hsq.out.2.1⟩, all_false_at _ m k hlt (by rw [rowGood_eq _ _ _ hlen.out, HB.out])]), HL2.out⟩
        · have HB := hid hb; clear hb
          go_wp2_with fail
          refine (l1All_as _ _ _ _ _ _ HB.out HU.out).mono ?_
          rintro e w' ⟨rfl, rfl⟩
          go_wp2_with fail
          go_round
          case rel => exact ⟨k + 1, hlt, by go_num, all_take_succ _ m k hlt HA.out (by rw [rowGood_eq _ _ _ hlen.out, HB.out])⟩
          case measure => simp [intOf]; omega
      · go_wp2_with fail
        go_ret
        exact ⟨ret_bool (by rw [goodM_eq _ _ ⟨hsq.out.1, hsq.out.2.1⟩, ← HA.out, List.take_of_length_le (by omega)]), HL2.out⟩

def formW (m : List (List Int)) : Bool := goodM 1000 m && symW m
theorem symW_len (m : List (List Int)) : m.length = (transM m.length m).length := by simp [transM, mk]

set_option maxHeartbeats 1000000 in
theorem foForm_any (v : Value) (m : List (List Int)) (w : World) (h : Rows2 w v m) :
    Calls Try.prog 65 #[.agg #[v]] w fun e w' => e = .returned (.bool (formW m)) ∧ Later w w' := by
  obtain ⟨a, cap, rfl, hl, _⟩ := id h
  have hb0 : (w.alloc (.cells #[Value.slice a m.length cap] 42)).cell? ⟨w.heap.size, 0, none⟩ = some (.slice a m.length cap) := by simp [go_sem]
  have HR := hid (h.later (Later.alloc w (.cells #[Value.slice a m.length cap] 42)))
  have HL := hid (Later.alloc w (.cells #[Value.slice a m.length cap] 42))
  clear h
  cases hg : goodM 1000 m
  · have HG := hid (show formW m = false by unfold formW; rw [hg]; rfl)
    have HGM := hid hg
    clear hg
    go_enter Try.func65, Try.ntmps65
    go_wp2_with fail
    generalize w.alloc (.cells #[Value.slice a m.length cap] 42) = w1 at hb0 HR HL ⊢
    go_region_with (first | (go_at_call 64; refine (foSmall_any _ m 1000 _ ⟨by omega, by omega⟩ (HR.out.later (Later.drew w1))).mono ?_; rintro e w2 ⟨rfl, hL⟩; have HL2 := hid (HL.out.trans ((Later.drew w1).trans hL)); clear hL; rw [HGM.out]))
    all_goals
      go_wp2_with fail
      go_ret
      exact ⟨ret_bool HG.out.symm, HL2.out⟩
  · have hsq := hid (goodM_sq hg)
    have hn4 : m.length ≤ 4 := (goodM_sq hg).2.1
    have HG := hid (show formW m = symW m by unfold formW; rw [hg]; rfl)
    have HGM := hid hg
    clear hg
    go_enter Try.func65, Try.ntmps65
    go_wp2_with fail
    generalize w.alloc (.cells #[Value.slice a m.length cap] 42) = w1 at hb0 HR HL ⊢
    go_region_held3 (fun w' => w'.cell? ⟨w.heap.size, 0, none⟩ = some (.slice a m.length cap)) (first | exact hb0 | exact hb2 | exact hb3 | exact hb4) (first | (go_at_call 64; refine (foSmall_any _ m 1000 _ ⟨by omega, by omega⟩ (HR.out.later (Later.drew w1))).mono ?_; rintro e w2 ⟨rfl, hL⟩; have hb2 := hL.cell (w := w1.drew) hb0; have HL2 := hid ((Later.drew w1).trans hL); clear hL; rw [HGM.out]) | (go_at_call 68; refine (foTranspose_any m.length m hsq.out.2.2 _ _ (by omega) (HR.out.later HL2.out)).mono ?_; rintro e w3 ⟨v3, rfl, ho, hL⟩; have hb3 := hL.cell hb2; have HL3 := hid (HL2.out.trans hL); have HO := hid ho.rows; clear hL ho) | (go_at_call 66; refine (foSame_any _ _ m (transM m.length m) _ (symW_len m) (HR.out.later HL3.out) HO.out).mono ?_; rintro e w4 ⟨rfl, hL⟩; have hb4 := hL.cell hb3; have HL4 := hid (HL.out.trans (HL3.out.trans hL)); clear hL))
    go_wp2_with fail
    go_ret
    exact ⟨ret_bool HG.out.symm, HL4.out⟩

set_option maxHeartbeats 1000000 in
theorem isSmallForm_any (v : Value) (m : List (List Int)) (w : World) (h : Rows2 w v m) :
    Calls Try.prog 71 #[.agg #[v]] w fun e w' => e = .returned (.bool (formW m)) ∧ Later w w' := by
  obtain ⟨a, cap, rfl, hl, _⟩ := id h
  have hb0 : (w.alloc (.cells #[Value.slice a m.length cap] 42)).cell? ⟨w.heap.size, 0, none⟩ = some (.slice a m.length cap) := by simp [go_sem]
  have HR := hid (h.later (Later.alloc w (.cells #[Value.slice a m.length cap] 42)))
  have HL := hid (Later.alloc w (.cells #[Value.slice a m.length cap] 42))
  clear h
  go_enter Try.func71, Try.ntmps71
  go_wp2_with fail
  generalize w.alloc (.cells #[Value.slice a m.length cap] 42) = w1 at hb0 HR HL ⊢
  refine (isMatrixUpTo_any _ m 1000 _ ⟨by omega, by omega⟩ HR.out).mono ?_
  rintro e w2 ⟨rfl, hL⟩
  have hb2 := hL.cell hb0
  have HR2 := hid (HR.out.later hL)
  have HL2 := hid (HL.out.trans hL)
  clear hL hb0
  cases hg : goodM 1000 m
  · have HG := hid (show formW m = false by unfold formW; rw [hg]; rfl)
    clear hg
    go_wp2_with fail
    go_ret
    exact ⟨ret_bool HG.out.symm, HL2.out⟩
  · have hsq := hid (goodM_sq hg)
    have hn4 : m.length ≤ 4 := (goodM_sq hg).2.1
    have HG := hid (show formW m = symW m by unfold formW; rw [hg]; rfl)
    clear hg
    go_wp2_with fail
    refine (isSymmetricGrid_any m hsq.out.2.2 (by omega) _ _ HR2.out).mono ?_
    rintro e w3 ⟨rfl, hL⟩
    have HL3 := hid (HL2.out.trans hL)
    clear hL
    go_wp2_with fail
    go_ret
    exact ⟨ret_bool HG.out.symm, HL3.out⟩

def symAns (m : List (List Int)) : Option Bool := whenGood 1000000 m (symW m)

end Go.Proofs.Ytmlnpnglafipbab
