/- Form, Apply: in one text. -/
import Derived.Test.YtoaopmafokoaoabSqTr
import Derived.Deep.RegionHeld3
import Derived.Deep.RegionWith
import Derived.Deep.AppendLies
namespace Go.Proofs.Ytoaopmafokoaoab
open Go.RowKit


theorem within_mono {M M' : Int} (h : M ≤ M') (z : Int) (hz : within (-M) M z = true) : within (-M') M' z = true := by
  simp only [within, Bool.and_eq_true, decide_eq_true_eq] at hz ⊢; omega
theorem goodM_mono {M M' : Int} (h : M ≤ M') {m : List (List Int)} (hg : goodM M m = true) : goodM M' m = true := by
  have hq := goodM_sq hg
  rw [goodM_eq _ _ ⟨hq.1, hq.2.1⟩, List.all_eq_true] at hg ⊢
  intro r hr
  have := hg r hr
  simp only [rowGood, Bool.and_eq_true, decide_eq_true_eq, List.all_eq_true] at this ⊢
  exact ⟨this.1, fun z hz => within_mono h z (this.2 z hz)⟩

def formW (m : List (List Int)) : Bool := goodM 1000 m && symW m
theorem symW_len (m : List (List Int)) : m.length = (transM m.length m).length := by simp [transM, mk]

set_option maxHeartbeats 1000000 in
theorem isSmallForm_any (v : Value) (m : List (List Int)) (w : World) (h : Rows2 w v m) :
    Calls Try.prog 75 #[.agg #[v]] w fun e w' => e = .returned (.bool (formW m)) ∧ Later w w' := by
  obtain ⟨a, cap, rfl, hl, _⟩ := id h
  have hb0 : (w.alloc (.cells #[Value.slice a m.length cap] 44)).cell? ⟨w.heap.size, 0, none⟩ = some (.slice a m.length cap) := by simp [go_sem]
  have HR := hid (h.later (Later.alloc w (.cells #[Value.slice a m.length cap] 44)))
  have HL := hid (Later.alloc w (.cells #[Value.slice a m.length cap] 44))
  clear h
  go_enter Try.func75, Try.ntmps75
  go_wp2_with fail
  generalize w.alloc (.cells #[Value.slice a m.length cap] 44) = w1 at hb0 HR HL ⊢
  refine (isMatrixUpTo_any _ m 1000 _ ⟨by omega, by omega⟩ HR.out).mono ?_
  rintro e w2 ⟨rfl, hL⟩
  have hb2 := hL.cell hb0
  have HR2 := hid (HR.out.later hL)
  have HL2 := hid (HL.out.trans hL)
  clear hL hb0
  cases hg : goodM 1000 m
  · have HG := hid (show formW m = false by unfold formW; rw [hg]; rfl)
    clear hg
    go_wp2_with fail
    go_ret
    exact ⟨ret_bool HG.out.symm, HL2.out⟩
  · have hsq := hid (goodM_sq hg)
    have hn4 : m.length ≤ 4 := (goodM_sq hg).2.1
    have HG := hid (show formW m = symW m by unfold formW; rw [hg]; rfl)
    clear hg
    go_wp2_with fail
    refine (isSymmetricGrid_any m hsq.out.2.2 (by omega) _ _ HR2.out).mono ?_
    rintro e w3 ⟨rfl, hL⟩
    have HL3 := hid (HL2.out.trans hL)
    clear hL
    go_wp2_with fail
    go_ret
    exact ⟨ret_bool HG.out.symm, HL3.out⟩

def symAns (m : List (List Int)) : Option Bool := whenGood 1000000 m (symW m)

def dotW (a b : List Int) : Int := wsum (fun i => wrap64 (a.getD i 0 * b.getD i 0)) a.length
def applyW (m : List (List Int)) (zs : List Int) : List Int := m.map fun r => dotW r zs
def vecOK (n : Nat) (zs : List Int) : Bool := decide (zs.length = n) && zs.all (within (-1000000) 1000000)

theorem dotEntry_any (zs : List Int) (b : Nat) (u : Value) (i : Nat) (x : Int) (w : World) (hi : i < zs.length) (hb : w.cell? ⟨b, 0, none⟩ = some u) (h : Ints w u zs) :
    Calls Try.prog 116 #[.int .i64 i, .int .i64 x, .pointer (some ⟨b, 0, none⟩)] w fun e w' => e = .returned (.int .i64 (wrap64 (x * zs.getD i 0))) ∧ w = w' := by
  obtain ⟨a, cap, rfl, hl, hc⟩ := h
  obtain ⟨ad, rfl, hx⟩ := hc i hi
  have hi2 : (i : Int) < (zs.length : Int) := by omega
  generalize zs.getD i 0 = y at hx ⊢
  clear hc
  go_enter Try.func116, Try.ntmps116
  go_wp2_with fail
  go_ret
  exact ⟨rfl, rfl⟩

set_option maxHeartbeats 400000 in
theorem dot_any (u v : Value) (xs ys : List Int) (w : World) (hl : xs.length ≤ ys.length) (hu : Ints w u xs) (hv : Ints w v ys) :
    Calls Try.prog 99 #[u, v] w fun e w' => e = .returned (.int .i64 (dotW xs ys)) ∧ Later w w' := by
  obtain ⟨b, cap2, rfl, _⟩ := id hv
  have hb : (w.alloc (.cells #[Value.slice b ys.length cap2] 24)).cell? ⟨w.heap.size, 0, none⟩ = some (.slice b ys.length cap2) := by simp [go_sem]
  have HB := hid hb
  have HU := hid (hu.later (Later.alloc w (.cells #[Value.slice b ys.length cap2] 24)))
  have HV := hid (hv.later (Later.alloc w (.cells #[Value.slice b ys.length cap2] 24)))
  have HL := hid (Later.alloc w (.cells #[Value.slice b ys.length cap2] 24))
  clear hu hv hb
  go_enter Try.func99, Try.ntmps99
  go_wp2_with fail
  refine (sumOver_any u xs 116 #[.pointer (some ⟨w.heap.size, 0, none⟩)] (fun i => wrap64 (xs.getD i 0 * ys.getD i 0)) _ Try.call116 HU.out (fun i w1 hi hL => (dotEntry_any ys w.heap.size _ i (xs.getD i 0) w1 (by omega) (hL.cell HB.out) (HV.out.later hL)).mono fun e w2 ⟨he, hw⟩ => ⟨he, by subst hw; exact Later.refl _⟩)).mono ?_
  rintro e w1 ⟨rfl, hL⟩
  have HL2 := hid (HL.out.trans hL)
  clear hL
  go_wp2_with fail
  go_ret
  exact ⟨rfl, HL2.out⟩

set_option maxHeartbeats 1000000 in
theorem appliedTo_any (n : Nat) (m : List (List Int)) (hq : Sq n m) (hn : n ≤ 1048576) (zs : List Int) (hz : zs.length = n) (u v : Value) (w : World) (hu : Rows2 w u m) (hv : Ints w v zs) :
    Calls Try.prog 89 #[u, v] w fun e w' => MadeInts w (applyW m zs) e w' := by
  obtain ⟨a, cap, rfl, hl⟩ := hu.sqForm hq
  obtain ⟨i0, hi, hz0, hz1, hz2⟩ := info_parts Try.infoInt
  have HB := hid hz2
  have HU := hid hu
  have HV := hid hv
  clear hu hv
  have hal : (applyW m zs).length = n := by simp [applyW, hq.1]
  have HAL := hid hal
  clear hal
  go_enter Try.func89, Try.ntmps89
  go_wp2_with (at_make; refine wpList_make_full _ rfl _ _ 24 rfl w.heap.size 3 i0 (.int .i64 0) 1 Try.underlying24 hi hz0 hz1 _ _ _ _ n rfl rfl rfl rfl ?b2 ?b3 ?b4 ?_)
  case b2 => rw [HB.out]; omega
  case b3 => unfold maxLen; omega
  case b4 => exact Nat.le_refl _
  intro w1 hown hgrow
  have hL : Later w w1 := (Below.refl _ _).grown hgrow (Nat.le_refl _) (by simp)
  have hF : Filled w.heap.size 3 w1 (.slice (some ⟨w.heap.size, 0, none⟩) n n) n 0 ((applyW m zs).map (Value.int .i64)) := ⟨_, hown, by simp⟩
  clear hown hgrow
  go_wp2_with fail
  go_loopw [13] (fun i wr => ∃ k : Nat, k ≤ n ∧ i = .int .i64 k ∧ Filled w.heap.size 3 wr (.slice (some ⟨w.heap.size, 0, none⟩) n n) n k ((applyW m zs).map (Value.int .i64)) ∧ Later w wr)
    (fun i _ => n - (intOf i).toNat)
  case atStart => exact ⟨0, Nat.zero_le _, rfl, hF, hL⟩
  case round =>
    clear hF hL
    obtain ⟨k, hk, rfl, hFk, hLk⟩ := hrel
    by_cases hlt : k < n
    · obtain ⟨ad, cap', ar, cr, hv, hcr, hir, _⟩ := (HU.out.later hLk).ent hq k hlt
      simp only [Value.slice.injEq, true_and] at hv
      obtain ⟨rfl, rfl⟩ := hv
      have HIR := hid hir
      have HF := hid hFk
      have HL := hid hLk
      clear hir hFk hLk
      go_wp2_with fail
      refine (dot_any _ _ (m.getD k []) zs _ (by rw [hq.2 k hlt, hz]; exact Nat.le_refl _) HIR.out (HV.out.later HL.out)).mono ?_
      rintro e w2 ⟨rfl, hL2⟩
      have hFk2 : Filled w.heap.size 3 w2 (.slice (some ⟨w.heap.size, 0, none⟩) n n) n k ((applyW m zs).map (Value.int .i64)) := HF.out.keep fun b hb => by
        simp [Value.ownBlock] at hb; subst hb
        have := HF.out.at hlt
        exact hL2.block _ (World.block_lt_of_cell? _ _ this.1.choose_spec)
      obtain ⟨⟨u0, hu0⟩, hfr⟩ := hFk2.at hlt
      have HF' := hid (hFk2.step hlt (u := .int .i64 (dotW (m.getD k []) zs)) (by simp [applyW, hq.1, hlt]))
      have HL' := hid (show Later w (w2.setCell ⟨w.heap.size, k, none⟩ (.int .i64 (dotW (m.getD k []) zs))) from (HL.out.trans hL2).setCell (Nat.le_refl _) _)
      generalize dotW (m.getD k []) zs = y at HF' HL' ⊢
      clear hFk2 hL2 HF HL hcr
      go_wp2_with fail
      go_roundw
      case rel => exact ⟨k + 1, hlt, by go_num, HF'.out, HL'.out⟩
      case measure => simp [intOf]; omega
    · go_wp2_with fail
      go_ret
      have : k = n := by omega
      subst this
      have ho := hFk.full (by rw [List.length_map]; exact HAL.out)
      exact ⟨_, rfl, ⟨by rw [HAL.out]; exact ho, fun b hb => (ho.lt b hb).2⟩, hLk⟩

theorem OwnInts.pushed {lo : Nat} {w1 : World} {v' : Value} {L : List Int} {x : Int} (ho1 : w1.ownsRow lo 3 1 v' (L.length + 1) (L.map (Value.int .i64) ++ [.int .i64 x])) : OwnInts lo w1.heap.size w1 v' (L ++ [x]) :=
  ⟨by simpa using ho1, fun b hb => (ho1.lt b hb).2⟩
theorem OwnInts.empty (lo hi : Nat) (w : World) : OwnInts lo hi w (.slice none 0 0) [] := ⟨World.ownsRow_nil _ _ _ _, fun b hb => by simp [Value.ownBlock] at hb⟩

end Go.Proofs.Ytoaopmafokoaoab
