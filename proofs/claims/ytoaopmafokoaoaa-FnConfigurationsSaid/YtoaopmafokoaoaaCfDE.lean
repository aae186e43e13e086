/- CfD, CfE: in one text. -/
import Derived.Test.YtoaopmafokoaoaaCfKC
import Derived.Test.YtoaopmafokoaoaaIdxA
import Derived.Test.YtoaopmafokoaoaaLayClC
namespace Go.Proofs.Ytoaopmafokoaoaa
open Go.RowKit


def wordC (zs : List Int) : Bool := decide (zs.length ≤ 40) && zs.all (within 0 3)
theorem idxWordC_as (v : Value) (zs : List Int) (o : Bool) (w : World) (ho : wordC zs = o) (h : Ints w v zs) :
    Calls Try.prog 87 #[v, .int .i64 4] w fun e w' => e = .returned (.bool o) ∧ w = w' := by
  subst ho; exact isIdx_any v zs 4 w h
theorem wordC_at {zs : List Int} (h : wordC zs = true) (k : Nat) (hk : k < zs.length) : ∃ i : Nat, zs.getD k 0 = (i : Int) ∧ i < 4 := by
  unfold wordC at h
  rw [Bool.and_eq_true, List.all_eq_true] at h
  have := h.2 zs[k] (List.getElem_mem hk)
  simp only [within, Bool.and_eq_true, decide_eq_true_eq] at this
  rw [getD_at zs k hk]
  exact ⟨zs[k].toNat, by omega, by omega⟩
def followCL : List Ci4 → List Int → Option (List Ci4)
  | L, [] => some L
  | L, z :: zs => if ciB (ciNew L z.toNat) = true then followCL (ciSwL L z.toNat) zs else none
def followCAns (L : List Ci4) (zs : List Int) : Option (List Ci4) := if confB L = true ∧ wordC zs = true then followCL L zs else none
theorem followL_drop (L : List Ci4) (zs : List Int) (k i : Nat) (hk : k < zs.length) (hi : zs.getD k 0 = (i : Int)) :
    followCL L (zs.drop k) = if ciB (ciNew L i) = true then followCL (ciSwL L i) (zs.drop (k + 1)) else none := by
  rw [List.drop_eq_getElem_cons hk]
  rw [getD_at zs k hk] at hi
  have e : followCL L (zs[k] :: zs.drop (k + 1)) = if ciB (ciNew L zs[k].toNat) = true then followCL (ciSwL L zs[k].toNat) (zs.drop (k + 1)) else none := rfl
  rw [e, hi, Int.toNat_natCast]
theorem followL_len (L : List Ci4) (zs : List Int) (h : L.length = 4) : ((followCL L zs).getD []).length ≤ 4 := by
  induction zs generalizing L with
  | nil => simp [followCL, h]
  | cons z zs ih =>
    unfold followCL
    split
    · exact ih _ (swL_len4 L _ h)
    · simp
theorem followAns_len (L : List Ci4) (zs : List Int) : ((followCAns L zs).getD []).length ≤ 1000000000000 := by
  unfold followCAns
  split
  · rename_i h
    have := followL_len L zs (fourB_len (confB_four h.1))
    omega
  · simp
/-- four circles -/
def GoodL (L : List Ci4) : Prop := L.length = 4 ∧ ∀ i, i < 4 → ciB (L.getD i c00) = true
theorem GoodL.of {L : List Ci4} (h : confB L = true) : GoodL L :=
  ⟨fourB_len (confB_four h), fun i hi => fourB_all (confB_four h) i (by have := fourB_len (confB_four h); omega)⟩
theorem GoodL.bd {L : List Ci4} (h : GoodL L) : BdL 1000000000000000 L := by
  intro i hi
  have h1 := h.2 i hi
  obtain ⟨t, ht⟩ : ∃ t, L.getD i c00 = t := ⟨_, rfl⟩
  rw [ht] at h1 ⊢
  obtain ⟨a, b, x, y⟩ := t
  obtain ⟨⟨a1, a2⟩, ⟨b1, b2⟩, ⟨x1, x2⟩, y1, y2⟩ := ciIn_bd (ciB_in h1)
  unfold Bd
  simp only
  omega
theorem GoodL.step {L : List Ci4} (h : GoodL L) {i : Nat} (hi : i < 4) (hc : ciB (ciNew L i) = true) : GoodL (ciSwL L i) := by
  refine ⟨swL_len4 L i h.1, fun j hj => ?_⟩
  by_cases e : j = i
  · subst e; rw [swL_same L j h.1 hj]; exact hc
  · rw [swL_other L i j e]; exact h.2 j hj

set_option maxRecDepth 20000 in
set_option maxHeartbeats 4000000 in
theorem followP_any (v : Value) (L : List Ci4) (u : Value) (zs : List Int) (w : World) (h : Cis w v L) (hz : Ints w u zs) :
    Calls Try.prog 37 #[v, u] w fun e w' => CisAns w (followCAns L zs) e w' := by
  obtain ⟨a, cap, rfl, _⟩ := id h
  obtain ⟨ua, ucap, rfl, hzl, _⟩ := id hz
  have HZ := hid hz
  cases h4 : confB L
  · have HC := hid (configOf_no _ L w h h4)
    have HA := hid (show followCAns L zs = none by unfold followCAns; rw [h4]; simp)
    clear h4 h hz
    go_enter Try.func37, Try.ntmps37
    go_wp2_with fail
    refine HC.out.mono ?_
    rintro e w2 ⟨rfl, hL⟩
    have hB : KBlk (w2.alloc (.cells #[.int .i64 0, .int .i64 0, .int .i64 0, .int .i64 0, .int .i64 0, .int .i64 0, .int .i64 0, .int .i64 0, .int .i64 0, .int .i64 0, .int .i64 0, .int .i64 0, .int .i64 0, .int .i64 0, .int .i64 0, .int .i64 0] 106)) w2.heap.size zL := KBlk.new w2 zL
    have HL := hid (setRow_later (hL.trans (Later.alloc w2 (.cells #[.int .i64 0, .int .i64 0, .int .i64 0, .int .i64 0, .int .i64 0, .int .i64 0, .int .i64 0, .int .i64 0, .int .i64 0, .int .i64 0, .int .i64 0, .int .i64 0, .int .i64 0, .int .i64 0, .int .i64 0, .int .i64 0] 106))) (B := w2.heap.size) hL.size (kA zL))
    have HST := hid (hB.store rfl (L' := zL) rfl)
    clear hL hB
    go_wp2_with (refine wpList_storeK _ ((w2.alloc (.cells #[.int .i64 0, .int .i64 0, .int .i64 0, .int .i64 0, .int .i64 0, .int .i64 0, .int .i64 0, .int .i64 0, .int .i64 0, .int .i64 0, .int .i64 0, .int .i64 0, .int .i64 0, .int .i64 0, .int .i64 0, .int .i64 0] 106)).setRow w2.heap.size (kA zL)) (by rfl) 106 _ _ (by rfl) ⟨w2.heap.size, 0, none⟩ (by rfl) (.agg (kA zL)) (by rfl) (by exact HST.out) (fun u => ?_))
    generalize (w2.alloc (.cells #[.int .i64 0, .int .i64 0, .int .i64 0, .int .i64 0, .int .i64 0, .int .i64 0, .int .i64 0, .int .i64 0, .int .i64 0, .int .i64 0, .int .i64 0, .int .i64 0, .int .i64 0, .int .i64 0, .int .i64 0, .int .i64 0] 106)).setRow w2.heap.size (kA zL) = w3 at HL ⊢
    go_wp2_with fail
    go_ret2
    exact ⟨_, by rw [HA.out]; rfl, by rw [HA.out]; exact OwnCis.nothing _ _ _, HL.out⟩
  · have HC := hid (configOf_yes _ L w h h4)
    have HG := hid (GoodL.of h4)
    have hWa := fun (w2 : World) (hL : Later w w2) => show KBlk (w2.alloc (.cells #[.int .i64 0, .int .i64 0, .int .i64 0, .int .i64 0, .int .i64 0, .int .i64 0, .int .i64 0, .int .i64 0, .int .i64 0, .int .i64 0, .int .i64 0, .int .i64 0, .int .i64 0, .int .i64 0, .int .i64 0, .int .i64 0] 106)) w2.heap.size zL from KBlk.new w2 zL
    cases hw : wordC zs
    · have HW := hid hw
      have HA := hid (show followCAns L zs = none by unfold followCAns; rw [hw]; simp)
      clear h4 h hz hw hWa
      go_enter Try.func37, Try.ntmps37
      go_wp2_with fail
      refine HC.out.mono ?_
      rintro e w2 ⟨rfl, hL⟩
      have hB : KBlk (w2.alloc (.cells #[.int .i64 0, .int .i64 0, .int .i64 0, .int .i64 0, .int .i64 0, .int .i64 0, .int .i64 0, .int .i64 0, .int .i64 0, .int .i64 0, .int .i64 0, .int .i64 0, .int .i64 0, .int .i64 0, .int .i64 0, .int .i64 0] 106)) w2.heap.size zL := KBlk.new w2 zL
      have HL := hid (setRow_later (hL.trans (Later.alloc w2 (.cells #[.int .i64 0, .int .i64 0, .int .i64 0, .int .i64 0, .int .i64 0, .int .i64 0, .int .i64 0, .int .i64 0, .int .i64 0, .int .i64 0, .int .i64 0, .int .i64 0, .int .i64 0, .int .i64 0, .int .i64 0, .int .i64 0] 106))) (B := w2.heap.size) hL.size (kA L))
      have HST := hid (hB.store rfl (L' := L) HG.out.1)
      clear hL hB
      go_wp2_with (refine wpList_storeK _ ((w2.alloc (.cells #[.int .i64 0, .int .i64 0, .int .i64 0, .int .i64 0, .int .i64 0, .int .i64 0, .int .i64 0, .int .i64 0, .int .i64 0, .int .i64 0, .int .i64 0, .int .i64 0, .int .i64 0, .int .i64 0, .int .i64 0, .int .i64 0] 106)).setRow w2.heap.size (kA L)) (by rfl) 106 _ _ (by rfl) ⟨w2.heap.size, 0, none⟩ (by rfl) (.agg (kA L)) (by rfl) (by exact HST.out) (fun u => ?_))
      generalize (w2.alloc (.cells #[.int .i64 0, .int .i64 0, .int .i64 0, .int .i64 0, .int .i64 0, .int .i64 0, .int .i64 0, .int .i64 0, .int .i64 0, .int .i64 0, .int .i64 0, .int .i64 0, .int .i64 0, .int .i64 0, .int .i64 0, .int .i64 0] 106)).setRow w2.heap.size (kA L) = w3 at HL ⊢
      refine (idxWordC_as _ zs false _ HW.out (HZ.out.later HL.out)).mono ?_
      rintro e w4 ⟨rfl, rfl⟩
      go_wp2_with fail
      go_ret2
      exact ⟨_, by rw [HA.out]; rfl, by rw [HA.out]; exact OwnCis.nothing _ _ _, HL.out⟩
    · have HW := hid hw
      have HA := hid (show followCAns L zs = followCL L zs by unfold followCAns; rw [if_pos ⟨h4, hw⟩])
      obtain ⟨F, hF⟩ : ∃ F, followCL L zs = F := ⟨_, rfl⟩
      rw [hF] at HA
      have HF := hid hF
      clear h4 h hz hw hF hWa
      go_enter Try.func37, Try.ntmps37
      go_wp2_with fail
      refine HC.out.mono ?_
      rintro e w2 ⟨rfl, hL⟩
      have hB : KBlk (w2.alloc (.cells #[.int .i64 0, .int .i64 0, .int .i64 0, .int .i64 0, .int .i64 0, .int .i64 0, .int .i64 0, .int .i64 0, .int .i64 0, .int .i64 0, .int .i64 0, .int .i64 0, .int .i64 0, .int .i64 0, .int .i64 0, .int .i64 0] 106)) w2.heap.size zL := KBlk.new w2 zL
      have HL := hid (setRow_later (hL.trans (Later.alloc w2 (.cells #[.int .i64 0, .int .i64 0, .int .i64 0, .int .i64 0, .int .i64 0, .int .i64 0, .int .i64 0, .int .i64 0, .int .i64 0, .int .i64 0, .int .i64 0, .int .i64 0, .int .i64 0, .int .i64 0, .int .i64 0, .int .i64 0] 106))) (B := w2.heap.size) hL.size (kA L))
      have HST := hid (hB.store rfl (L' := L) HG.out.1)
      have HB := hid (hB.set L)
      have HWS := hid hL.size
      obtain ⟨B, hBB⟩ : ∃ B, w2.heap.size = B := ⟨_, rfl⟩
      clear hL hB
      rw [hBB] at HL HST HB HWS
      go_wp2_with (refine wpList_storeK _ ((w2.alloc (.cells #[.int .i64 0, .int .i64 0, .int .i64 0, .int .i64 0, .int .i64 0, .int .i64 0, .int .i64 0, .int .i64 0, .int .i64 0, .int .i64 0, .int .i64 0, .int .i64 0, .int .i64 0, .int .i64 0, .int .i64 0, .int .i64 0] 106)).setRow B (kA L)) (by rfl) 106 _ _ (by rfl) ⟨B, 0, none⟩ (by rfl) (.agg (kA L)) (by rfl) (by exact HST.out) (fun u => ?_))
      generalize (w2.alloc (.cells #[.int .i64 0, .int .i64 0, .int .i64 0, .int .i64 0, .int .i64 0, .int .i64 0, .int .i64 0, .int .i64 0, .int .i64 0, .int .i64 0, .int .i64 0, .int .i64 0, .int .i64 0, .int .i64 0, .int .i64 0, .int .i64 0] 106)).setRow B (kA L) = w3 at HL HB ⊢
      clear hBB
      refine (idxWordC_as _ zs true _ HW.out (HZ.out.later HL.out)).mono ?_
      rintro e w4 ⟨rfl, rfl⟩
      go_wp2_with fail
      go_loopw [24] (fun j wr => ∃ (k : Nat) (Lk : List Ci4), k ≤ zs.length ∧ j = .int .i64 k ∧ GoodL Lk ∧ followCL Lk (zs.drop k) = F ∧ KBlk wr B Lk ∧ Later w wr) (fun j _ => zs.length - (intOf j).toNat)
      case atStart => exact ⟨0, L, Nat.zero_le _, rfl, HG.out, HF.out, HB.out, HL.out⟩
      case round =>
        clear HB HL HST
        obtain ⟨k, Lk, hk, rfl, hG, hFk, hB, hL⟩ := hrel
        have HGk := hid hG
        have HFk := hid hFk
        have HB := hid hB
        have HL := hid hL
        by_cases hlt : k < zs.length
        · obtain ⟨i, hzi, hi⟩ := wordC_at HW.out k hlt
          obtain ⟨_, _, e1, _, hcs⟩ := HZ.out.later hL
          simp only [Value.slice.injEq] at e1
          obtain ⟨rfl, _, rfl⟩ := e1
          obtain ⟨ad, rfl, hcell⟩ := hcs k hlt
          rw [hzi] at hcell
          have hst := followL_drop Lk zs k i hlt hzi
          rw [hFk] at hst
          have HST := hid hst
          have HI := hid hi
          have hi4 : (i : Int) < 4 := by omega
          have HSW := hid (swappedK_any Lk i wr hi hG.1 hG.bd)
          have HN6 := hid (swL_len4 Lk i hG.1)
          clear hst hG hFk hB hL hcs hzi
          go_wp2_with (refine wpList_loadK _ (by rfl) 106 _ (by rfl) ⟨B, 0, none⟩ (by rfl) Try.isAgg106 16 Try.sizeOf106 (kA Lk) (by exact HB.out.load HGk.out.1) ?_)
          refine HSW.out.mono ?_
          rintro e w5 ⟨rfl, hL5⟩
          have HB5 := hid (HB.out.later hL5)
          have HB6 := hid (HB5.out.set (ciSwL Lk i))
          have HL6 := hid (setRow_later (HL.out.trans hL5) (by exact HWS.out) (kA (ciSwL Lk i)))
          obtain ⟨⟨c0, c1, c2, c3⟩, _⟩ := HB6.out.at HN6.out i hi
          rw [swL_same Lk i HGk.out.1 hi] at c0 c1 c2 c3
          have HGN := hid (fun hc => HGk.out.step HI.out hc)
          obtain ⟨t, ht⟩ : ∃ t, ciNew Lk i = t := ⟨_, rfl⟩
          rw [ht] at c0 c1 c2 c3 HST HGN
          obtain ⟨p, q, r, s⟩ := t
          simp only at c0 c1 c2 c3
          clear hL5 ht hcell
          go_wp2_with (refine wpList_storeK _ (w5.setRow B (kA (ciSwL Lk i))) (by rfl) 106 _ _ (by rfl) ⟨B, 0, none⟩ (by rfl) (.agg (kA (ciSwL Lk i))) (by rfl) (by exact HB5.out.store HGk.out.1 HN6.out) (fun u => ?_))
          generalize w5.setRow B (kA (ciSwL Lk i)) = w6 at HB6 HL6 c0 c1 c2 c3 ⊢
          cases hb : ciB (p, q, r, s)
          · have HBB := hid hb
            have HFN := hid (show F = none by have := HST.out; rw [hb] at this; simpa using this)
            clear hb
            refine (isCircle_as p q r s false _ HBB.out).mono ?_
            rintro e w7 ⟨rfl, hL7⟩
            have HL7 := hid (HL6.out.trans hL7)
            clear hL7
            go_wp2_with fail
            go_ret2
            exact ⟨_, by rw [HA.out, HFN.out]; rfl, by rw [HA.out, HFN.out]; exact OwnCis.nothing _ _ _, HL7.out⟩
          · have HBB := hid hb
            have HFN := hid (show followCL (ciSwL Lk i) (zs.drop (k + 1)) = F by have := HST.out; rw [hb] at this; simpa using this.symm)
            have HG2 := hid (HGN.out hb)
            clear hb
            refine (isCircle_as p q r s true _ HBB.out).mono ?_
            rintro e w7 ⟨rfl, hL7⟩
            have HL7 := hid (HL6.out.trans hL7)
            have HB7 := hid (HB6.out.later hL7)
            clear hL7
            go_wp2_with fail
            go_roundw
            case rel => exact ⟨k + 1, ciSwL Lk i, hlt, by go_num, HG2.out, HFN.out, HB7.out, HL7.out⟩
            case measure => simp [intOf]; omega
        · obtain rfl : k = zs.length := by omega
          have HE := hid (show F = some Lk by have := HFk.out; rw [List.drop_length] at this; exact this.symm)
          clear hG hFk hB hL
          go_wp2_with fail
          obtain ⟨i0, hi, hz0, hz1, hz2⟩ := info_parts Try.infoCi
          refine (AnyE.slices_Clone laysCl41 i0 (.agg #[.int .i64 0, .int .i64 0, .int .i64 0, .int .i64 0]) 4 32 hi hz0 hz1 hz2 rfl (by omega) Try.sizeOf103 B 0 4 4 (ciCells Lk) wr (by rw [ciCells_len, HGk.out.1]) (by unfold maxLen; omega) (by omega) (fun j u hj => by rw [Nat.zero_add, HB.out.cell j]; exact hj) (one_ci Lk)).mono ?_
          rintro e w5 ⟨v5, rfl, ho, _, hL5⟩
          have HL5 := hid (HL.out.trans hL5)
          have HO := hid (show OwnCis wr.heap.size w5.heap.size w5 v5 Lk from ⟨by rw [HGk.out.1]; exact ho, fun b hb => (ho.lt b hb).2⟩)
          clear ho hL5
          go_wp2_with fail
          go_ret2
          exact ⟨_, by rw [HA.out, HE.out]; rfl, by rw [HA.out, HE.out]; exact HO.out.wide HL.out.size (Nat.le_refl _), HL5.out⟩


def addC (c d : Ci4) : Ci4 := (c.1 + d.1, c.2.1 + d.2.1, c.2.2.1 + d.2.2.1, c.2.2.2 + d.2.2.2)
def sumK (L : List Ci4) (i : Nat) : Nat → Ci4
  | 0 => c00
  | k + 1 => if k = i then sumK L i k else addC (sumK L i k) (L.getD k c00)
theorem GoodL.bd6 {L : List Ci4} (h : GoodL L) : BdL 1000000 L := by
  intro i hi
  have h1 := h.2 i hi
  obtain ⟨t, ht⟩ : ∃ t, L.getD i c00 = t := ⟨_, rfl⟩
  rw [ht] at h1 ⊢
  obtain ⟨a, b, x, y⟩ := t
  have := ciIn_bd (ciB_in h1)
  unfold Bd
  simp only
  omega
theorem sumK_bd {L : List Ci4} {i : Nat} (h : BdL 1000000 L) : ∀ k : Nat, k ≤ 4 → Bd (4000000) (sumK L i k) ∧ Bd ((k : Int) * 1000000) (sumK L i k) := by
  intro k
  induction k with
  | zero => intro _; unfold Bd; simp [sumK, c00]
  | succ k ih =>
    intro hk
    have h1 := (ih (by omega)).2
    have h2 := h k (by omega)
    have h3 : Bd (((k + 1 : Nat) : Int) * 1000000) (sumK L i (k + 1)) := by
      unfold sumK
      split
      · unfold Bd at *; omega
      · unfold Bd addC at *; simp only; omega
    exact ⟨bd_mono h3 (by omega), h3⟩
theorem sumK_four (L : List Ci4) (i : Nat) (hi : i < 4) : (2 * (sumK L i 4).1 - (L.getD i c00).1, 2 * (sumK L i 4).2.1 - (L.getD i c00).2.1, 2 * (sumK L i 4).2.2.1 - (L.getD i c00).2.2.1, 2 * (sumK L i 4).2.2.2 - (L.getD i c00).2.2.2) = ciNew L i := by
  have z1 : c00.1 = 0 := rfl
  have z2 : c00.2.1 = 0 := rfl
  have z3 : c00.2.2.1 = 0 := rfl
  have z4 : c00.2.2.2 = 0 := rfl
  rcases lt4 hi with rfl | rfl | rfl | rfl <;> simp only [sumK, addC, ciNew, z1, z2, z3, z4, if_true] <;> simp only [show ¬ (1 : Nat) = 0 by omega, show ¬ (2 : Nat) = 0 by omega, show ¬ (3 : Nat) = 0 by omega, show ¬ (0 : Nat) = 1 by omega, show ¬ (2 : Nat) = 1 by omega, show ¬ (3 : Nat) = 1 by omega, show ¬ (0 : Nat) = 2 by omega, show ¬ (1 : Nat) = 2 by omega, show ¬ (3 : Nat) = 2 by omega, show ¬ (0 : Nat) = 3 by omega, show ¬ (1 : Nat) = 3 by omega, show ¬ (2 : Nat) = 3 by omega, if_false] <;> refine Prod.ext ?_ (Prod.ext ?_ (Prod.ext ?_ ?_)) <;> simp only <;> omega
theorem OwnCis.empty (w : World) : OwnCis w.heap.size (w.heap.size + 1) (w.alloc (.cells #[] 103)) (.slice (some ⟨w.heap.size, 0, none⟩) 0 0) [] := by
  have h := World.ownsRow_lit (e := 103) (size := 4) w #[] 0 (Nat.le_refl _) (by unfold maxLen; omega) (by simp)
  exact ⟨h, fun k hk => by simp [Value.ownBlock] at hk; omega⟩
theorem Cis.news {w : World} {g n cap : Nat} {L : List Ci4} (h : Cis w (.slice (some ⟨g, 0, none⟩) n cap) L) : ∀ j u, (ciCells L)[j]? = some u → w.cell? ((⟨g, 0, none⟩ : Addr).add j) = some u := by
  intro j u hj
  have hj16 : j < L.length * 4 := by
    have := (List.getElem?_eq_some_iff.1 hj).1
    rwa [ciCells_len] at this
  obtain ⟨g', e, c0, c1, c2, c3⟩ := h.at (j / 4) (by omega)
  simp only [Option.some.injEq, Addr.mk.injEq, and_true] at e
  subst e
  have ha := ciCells_at L (j / 4) (by omega)
  rw [addr_add0, ← hj]
  have h4 : j % 4 = 0 ∨ j % 4 = 1 ∨ j % 4 = 2 ∨ j % 4 = 3 := by omega
  rcases h4 with e | e | e | e
  · have e2 : j / 4 * 4 = j := by omega
    rw [e2] at c0 ha; rw [c0]; exact ha.1.symm
  · have e2 : j / 4 * 4 + 1 = j := by omega
    rw [e2] at c1 ha; rw [c1]; exact ha.2.1.symm
  · have e2 : j / 4 * 4 + 2 = j := by omega
    rw [e2] at c2 ha; rw [c2]; exact ha.2.2.1.symm
  · have e2 : j / 4 * 4 + 3 = j := by omega
    rw [e2] at c3 ha; rw [c3]; exact ha.2.2.2.symm

set_option maxRecDepth 20000 in
set_option maxHeartbeats 4000000 in
theorem ciSwap_any (v : Value) (L : List Ci4) (i : Nat) (w : World) (hi : i < 4) (hl : L.length = 4) (hb : BdL 1000000 L) (h : Cis w v L) :
    Calls Try.prog 80 #[v, .int .i64 i] w fun e w' => MadeCis w (ciSwL L i) e w' := by
  obtain ⟨_, cap, rfl, hlen, hcap, hc⟩ := id h
  obtain ⟨g, rfl, _⟩ := hc 0 (by omega)
  have hA := Later.alloc w (.cells #[] 103)
  have HE := hid (OwnCis.empty w)
  have H := hid (h.later hA)
  have HLA := hid hA
  have HN := hid hl
  have HBD := hid hb
  have HI := hid hi
  obtain ⟨i0, hi0, hz0, hz1, hz2⟩ := info_parts Try.infoCi
  have hl4 : L.length ≤ 4 := by omega
  have hl1 : 0 < L.length := by omega
  have H0 := hid h
  clear h hc hA hb hl
  go_enter Try.func80, Try.ntmps80
  go_wp2_with (at_builtin; refine wpList_append_lies _ (by rfl) _ _ _ (by rfl) w.heap.size 103 i0 (.agg #[.int .i64 0, .int .i64 0, .int .i64 0, .int .i64 0]) 4 32 Try.underlying44 hi0 hz0 hz1 hz2 rfl (by omega) _ 0 [] (by rfl) (by exact HE.out.1) ⟨g, 0, none⟩ L.length cap (ciCells L) (by rfl) (by rw [ciCells_len]) (by exact H.out.news) (one_ci L) (by omega) (by unfold maxLen; omega) (by omega) (by simp) (w.heap.size + 1) (by simp) ?_)
  intro g1 cap1 w2 hown hgrow hat hglt
  have HL2 := hid (show Later w w2 from HLA.out.grown hgrow (by simp) (fun b hb => (HE.out.1.lt b hb).1))
  have HO2 := hid (show OwnCis w.heap.size w2.heap.size w2 (.slice (some ⟨g1, 0, none⟩) L.length cap1) L from ⟨by simpa using hown, fun b hb => (hown.lt b hb).2⟩)
  have H2 := hid (H0.out.later HL2.out)
  have HS2 := hid (show w.heap.size ≤ w2.heap.size from HL2.out.size)
  have HG1 := hid (show g1 < w2.heap.size from hglt)
  have hA2 := Later.alloc w2 (.cells #[.int .i64 0, .int .i64 0, .int .i64 0, .int .i64 0] 103)
  have HF3 := hid (FBox.new w2 0 0 0 0 103)
  have HL3 := hid (HL2.out.trans hA2)
  have HO3 := hid (HO2.out.later hA2)
  have H3 := hid (H2.out.later hA2)
  obtain ⟨BS, hBS⟩ : ∃ B, w2.heap.size = B := ⟨_, rfl⟩
  clear hown hgrow hat hglt hA2 HL2 HO2 H2
  go_wp2_with fail
  generalize w2.alloc (.cells #[.int .i64 0, .int .i64 0, .int .i64 0, .int .i64 0] 103) = w3 at HF3 HL3 HO3 H3 ⊢
  rw [hBS] at HF3 HS2 HG1 HO3
  clear hBS
  go_loopw [16] (fun j wr => ∃ k : Nat, k ≤ L.length ∧ j = .int .i64 k ∧ FBox wr BS (sumK L i k) ∧ OwnCis w.heap.size BS wr (.slice (some ⟨g1, 0, none⟩) L.length cap1) L ∧ Later w wr) (fun j _ => L.length - (intOf j).toNat)
  case atStart => exact ⟨0, by omega, rfl, HF3.out, HO3.out, HL3.out⟩
  case round =>
    clear HF3 HO3 HL3 H3
    obtain ⟨k, hk, rfl, hF, hO, hL⟩ := hrel
    have HF := hid hF
    have HO := hid hO
    have HL := hid hL
    by_cases hlt : k < L.length
    · obtain ⟨g', e, c0, c1, c2, c3⟩ := (H0.out.later hL).at k hlt
      simp only [Option.some.injEq, Addr.mk.injEq, and_true] at e
      subst e
      have hbk := HBD.out k (by omega)
      have hsk := (sumK_bd (i := i) HBD.out k (by omega)).1
      have HSK := hid (show sumK L i (k + 1) = if k = i then sumK L i k else addC (sumK L i k) (L.getD k c00) from rfl)
      obtain ⟨t, ht⟩ : ∃ t, L.getD k c00 = t := ⟨_, rfl⟩
      rw [ht] at c0 c1 c2 c3 hbk HSK
      obtain ⟨m, hm⟩ : ∃ m, sumK L i k = m := ⟨_, rfl⟩
      rw [hm] at HF hsk HSK
      obtain ⟨p, q, r, s⟩ := t
      obtain ⟨m0, m1, m2, m3⟩ := m
      unfold Bd at hbk hsk
      simp only at c0 c1 c2 c3 hbk hsk
      obtain ⟨⟨p1, p2⟩, ⟨q1, q2⟩, ⟨r1, r2⟩, s1, s2⟩ := hbk
      obtain ⟨⟨x1, x2⟩, ⟨x3, x4⟩, ⟨x5, x6⟩, x7, x8⟩ := hsk
      have hA := Later.alloc wr (.cells #[.int .i64 p, .int .i64 q, .int .i64 r, .int .i64 s] 103)
      have HF4 := hid (HF.out.later hA)
      have HO4 := hid (HO.out.later hA)
      have HL4 := hid (HL.out.trans hA)
      have HC4 := hid (CBox.new wr p q r s 103)
      obtain ⟨⟨b0, b1, b2, b3⟩, hf⟩ := HF4.out
      have f0 := hf 0
      have f1 := hf 1
      have f2 := hf 2
      have f3 := hf 3
      have hnw : wr.heap.size ≠ BS := by have := HF.out; have := World.block_lt_of_cell? wr ⟨BS, 0, none⟩ HF.out.1.1; simp only at this; omega
      clear ht hm hF hO hL hA hf
      by_cases hki : k = i
      · have hne : ((k : Int) != (i : Int)) = false := by simp [hki]
        have HSE := hid (show sumK L i (k + 1) = (m0, m1, m2, m3) by rw [HSK.out, if_pos hki])
        clear hki
        go_wp2_with fail
        go_roundw
        case rel => exact ⟨k + 1, hlt, by go_num, by rw [HSE.out]; exact HF4.out, HO4.out, HL4.out⟩
        case measure => simp [intOf]; omega
      · have hne : ((k : Int) != (i : Int)) = true := by simp; omega
        have HSE := hid (show sumK L i (k + 1) = (m0 + p, m1 + q, m2 + r, m3 + s) by rw [HSK.out, if_neg hki]; rfl)
        obtain ⟨d0, d1, d2, d3⟩ := HC4.out
        have HF5 := hid (HF4.out.set (m0 + p) (m1 + q) (m2 + r) (m3 + s))
        have HO5 := hid (HO4.out.keep fun b hb1 hb2 => set4_far _ BS 0 b (.int .i64 (m0 + p)) (.int .i64 (m1 + q)) (.int .i64 (m2 + r)) (.int .i64 (m3 + s)) (by omega))
        have HL5 := hid (set4_later HL4.out (by exact HS2.out) 0 (.int .i64 (m0 + p)) (.int .i64 (m1 + q)) (.int .i64 (m2 + r)) (.int .i64 (m3 + s)))
        clear hki
        go_wp2_with fail
        go_roundw
        case rel => exact ⟨k + 1, hlt, by go_num, by rw [HSE.out]; exact HF5.out, HO5.out, HL5.out⟩
        case measure => simp [intOf]; omega
    · obtain rfl : k = L.length := by omega
      have hL4 := HN.out
      obtain ⟨g', e, c0, c1, c2, c3⟩ := (H0.out.later hL).at i (by omega)
      simp only [Option.some.injEq, Addr.mk.injEq, and_true] at e
      subst e
      have hbk := HBD.out i hi
      have hsk := (sumK_bd (i := i) HBD.out 4 (by omega)).1
      have hnew := sumK_four L i hi
      rw [hL4] at HF
      obtain ⟨t, ht⟩ : ∃ t, L.getD i c00 = t := ⟨_, rfl⟩
      rw [ht] at c0 c1 c2 c3 hbk hnew
      obtain ⟨m, hm⟩ : ∃ m, sumK L i 4 = m := ⟨_, rfl⟩
      rw [hm] at HF hsk hnew
      obtain ⟨p, q, r, s⟩ := t
      obtain ⟨m0, m1, m2, m3⟩ := m
      unfold Bd at hbk hsk
      simp only at c0 c1 c2 c3 hbk hsk hnew
      have HNW := hid (show L.set i (2 * m0 - p, 2 * m1 - q, 2 * m2 - r, 2 * m3 - s) = ciSwL L i by unfold ciSwL; rw [← hnew])
      obtain ⟨⟨p1, p2⟩, ⟨q1, q2⟩, ⟨r1, r2⟩, s1, s2⟩ := hbk
      obtain ⟨⟨x1, x2⟩, ⟨x3, x4⟩, ⟨x5, x6⟩, x7, x8⟩ := hsk
      have hA := Later.alloc wr (.cells #[.int .i64 p, .int .i64 q, .int .i64 r, .int .i64 s] 103)
      have HF4 := hid (HF.out.later hA)
      have HO4 := hid (HO.out.later hA)
      have HL4 := hid (HL.out.trans hA)
      have HC4 := hid (CBox.new wr p q r s 103)
      have hnw : wr.heap.size ≠ BS := by have := World.block_lt_of_cell? wr ⟨BS, 0, none⟩ HF.out.1.1; simp only at this; omega
      have hil : i < L.length := by omega
      have hii : (i : Int) < (L.length : Int) := by omega
      obtain ⟨⟨o0, o1, o2, o3⟩, h0, h1, h2, h3⟩ := HO4.out.openAt rfl i hil
      have HP := hid (HO4.out.put i hil (2 * m0 - p) (2 * m1 - q) (2 * m2 - r) (2 * m3 - s))
      have hlo : w.heap.size ≤ g1 := (HO.out.1.lt g1 rfl).1
      have HL5 := hid (set4_later HL4.out hlo (i * 4) (.int .i64 (2 * m0 - p)) (.int .i64 (2 * m1 - q)) (.int .i64 (2 * m2 - r)) (.int .i64 (2 * m3 - s)))
      obtain ⟨⟨b0, b1, b2, b3⟩, _⟩ := HF4.out
      obtain ⟨d0, d1, d2, d3⟩ := HC4.out
      clear ht hm hF hO hL hA hnew hL4
      go_wp2_with fail
      go_ret
      refine ⟨_, rfl, ?_, HL5.out⟩
      have hP := HP.out
      rw [HNW.out] at hP
      exact ⟨by simpa [ciSwL] using hP.1, fun b hb => (hP.1.lt b hb).2⟩
end Go.Proofs.Ytoaopmafokoaoaa
