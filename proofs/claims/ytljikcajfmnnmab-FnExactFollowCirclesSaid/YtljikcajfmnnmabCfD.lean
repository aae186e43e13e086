/- FollowCircles (the program). -/
import Derived.Test.YtljikcajfmnnmabCfC
import Derived.Test.YtljikcajfmnnmabIdxA
import Derived.Test.YtljikcajfmnnmabLayClC
namespace Go.Proofs.Ytljikcajfmnnmab
open Go.RowKit

def wordC (zs : List Int) : Bool := decide (zs.length ≤ 40) && zs.all (within 0 3)
theorem idxWordC_as (v : Value) (zs : List Int) (o : Bool) (w : World) (ho : wordC zs = o) (h : Ints w v zs) :
    Calls Try.prog 50 #[v, .int .i64 4] w fun e w' => e = .returned (.bool o) ∧ w = w' := by
  subst ho; exact isIdx_any v zs 4 w h
theorem wordC_at {zs : List Int} (h : wordC zs = true) (k : Nat) (hk : k < zs.length) : ∃ i : Nat, zs.getD k 0 = (i : Int) ∧ i < 4 := by
  unfold wordC at h
  rw [Bool.and_eq_true, List.all_eq_true] at h
  have := h.2 zs[k] (List.getElem_mem hk)
  simp only [within, Bool.and_eq_true, decide_eq_true_eq] at this
  rw [getD_at zs k hk]
  exact ⟨zs[k].toNat, by omega, by omega⟩
def followL : List Ci4 → List Int → Option (List Ci4)
  | L, [] => some L
  | L, z :: zs => if ciB (ciNew L z.toNat) = true then followL (ciSwL L z.toNat) zs else none
def followAns (L : List Ci4) (zs : List Int) : Option (List Ci4) := if confB L = true ∧ wordC zs = true then followL L zs else none
theorem followL_drop (L : List Ci4) (zs : List Int) (k i : Nat) (hk : k < zs.length) (hi : zs.getD k 0 = (i : Int)) :
    followL L (zs.drop k) = if ciB (ciNew L i) = true then followL (ciSwL L i) (zs.drop (k + 1)) else none := by
  rw [List.drop_eq_getElem_cons hk]
  rw [getD_at zs k hk] at hi
  have e : followL L (zs[k] :: zs.drop (k + 1)) = if ciB (ciNew L zs[k].toNat) = true then followL (ciSwL L zs[k].toNat) (zs.drop (k + 1)) else none := rfl
  rw [e, hi, Int.toNat_natCast]
theorem followL_len (L : List Ci4) (zs : List Int) (h : L.length = 4) : ((followL L zs).getD []).length ≤ 4 := by
  induction zs generalizing L with
  | nil => simp [followL, h]
  | cons z zs ih =>
    unfold followL
    split
    · exact ih _ (swL_len4 L _ h)
    · simp
theorem followAns_len (L : List Ci4) (zs : List Int) : ((followAns L zs).getD []).length ≤ 1000000000000 := by
  unfold followAns
  split
  · rename_i h
    have := followL_len L zs (fourB_len (confB_four h.1))
    omega
  · simp
/-- four circles -/
def GoodL (L : List Ci4) : Prop := L.length = 4 ∧ ∀ i, i < 4 → ciB (L.getD i c00) = true
theorem GoodL.of {L : List Ci4} (h : confB L = true) : GoodL L :=
  ⟨fourB_len (confB_four h), fun i hi => fourB_all (confB_four h) i (by have := fourB_len (confB_four h); omega)⟩
theorem GoodL.bd {L : List Ci4} (h : GoodL L) : BdL 1000000000000000 L := by
  intro i hi
  have h1 := h.2 i hi
  obtain ⟨t, ht⟩ : ∃ t, L.getD i c00 = t := ⟨_, rfl⟩
  rw [ht] at h1 ⊢
  obtain ⟨a, b, x, y⟩ := t
  obtain ⟨⟨a1, a2⟩, ⟨b1, b2⟩, ⟨x1, x2⟩, y1, y2⟩ := ciIn_bd (ciB_in h1)
  unfold Bd
  simp only
  omega
theorem GoodL.step {L : List Ci4} (h : GoodL L) {i : Nat} (hi : i < 4) (hc : ciB (ciNew L i) = true) : GoodL (ciSwL L i) := by
  refine ⟨swL_len4 L i h.1, fun j hj => ?_⟩
  by_cases e : j = i
  · subst e; rw [swL_same L j h.1 hj]; exact hc
  · rw [swL_other L i j e]; exact h.2 j hj

set_option maxRecDepth 20000 in
set_option maxHeartbeats 4000000 in
theorem followP_any (v : Value) (L : List Ci4) (u : Value) (zs : List Int) (w : World) (h : Cis w v L) (hz : Ints w u zs) :
    Calls Try.prog 33 #[v, u] w fun e w' => CisAns w (followAns L zs) e w' := by
  obtain ⟨a, cap, rfl, _⟩ := id h
  obtain ⟨ua, ucap, rfl, hzl, _⟩ := id hz
  have HZ := hid hz
  cases h4 : confB L
  · have HC := hid (configOf_no _ L w h h4)
    have HA := hid (show followAns L zs = none by unfold followAns; rw [h4]; simp)
    clear h4 h hz
    go_enter Try.func33, Try.ntmps33
    go_wp2_with fail
    refine HC.out.mono ?_
    rintro e w2 ⟨rfl, hL⟩
    have hB : KBlk (w2.alloc (.cells #[.int .i64 0, .int .i64 0, .int .i64 0, .int .i64 0, .int .i64 0, .int .i64 0, .int .i64 0, .int .i64 0, .int .i64 0, .int .i64 0, .int .i64 0, .int .i64 0, .int .i64 0, .int .i64 0, .int .i64 0, .int .i64 0] 60)) w2.heap.size zL := KBlk.new w2 zL
    have HL := hid (setRow_later (hL.trans (Later.alloc w2 (.cells #[.int .i64 0, .int .i64 0, .int .i64 0, .int .i64 0, .int .i64 0, .int .i64 0, .int .i64 0, .int .i64 0, .int .i64 0, .int .i64 0, .int .i64 0, .int .i64 0, .int .i64 0, .int .i64 0, .int .i64 0, .int .i64 0] 60))) (B := w2.heap.size) hL.size (kA zL))
    have HST := hid (hB.store rfl (L' := zL) rfl)
    clear hL hB
    go_wp2_with (refine wpList_storeK _ ((w2.alloc (.cells #[.int .i64 0, .int .i64 0, .int .i64 0, .int .i64 0, .int .i64 0, .int .i64 0, .int .i64 0, .int .i64 0, .int .i64 0, .int .i64 0, .int .i64 0, .int .i64 0, .int .i64 0, .int .i64 0, .int .i64 0, .int .i64 0] 60)).setRow w2.heap.size (kA zL)) (by rfl) 60 _ _ (by rfl) ⟨w2.heap.size, 0, none⟩ (by rfl) (.agg (kA zL)) (by rfl) (by exact HST.out) (fun u => ?_))
    generalize (w2.alloc (.cells #[.int .i64 0, .int .i64 0, .int .i64 0, .int .i64 0, .int .i64 0, .int .i64 0, .int .i64 0, .int .i64 0, .int .i64 0, .int .i64 0, .int .i64 0, .int .i64 0, .int .i64 0, .int .i64 0, .int .i64 0, .int .i64 0] 60)).setRow w2.heap.size (kA zL) = w3 at HL ⊢
    go_wp2_with fail
    go_ret2
    exact ⟨_, by rw [HA.out]; rfl, by rw [HA.out]; exact OwnCis.nothing _ _ _, HL.out⟩
  · have HC := hid (configOf_yes _ L w h h4)
    have HG := hid (GoodL.of h4)
    have hWa := fun (w2 : World) (hL : Later w w2) => show KBlk (w2.alloc (.cells #[.int .i64 0, .int .i64 0, .int .i64 0, .int .i64 0, .int .i64 0, .int .i64 0, .int .i64 0, .int .i64 0, .int .i64 0, .int .i64 0, .int .i64 0, .int .i64 0, .int .i64 0, .int .i64 0, .int .i64 0, .int .i64 0] 60)) w2.heap.size zL from KBlk.new w2 zL
    cases hw : wordC zs
    · have HW := hid hw
      have HA := hid (show followAns L zs = none by unfold followAns; rw [hw]; simp)
      clear h4 h hz hw hWa
      go_enter Try.func33, Try.ntmps33
      go_wp2_with fail
      refine HC.out.mono ?_
      rintro e w2 ⟨rfl, hL⟩
      have hB : KBlk (w2.alloc (.cells #[.int .i64 0, .int .i64 0, .int .i64 0, .int .i64 0, .int .i64 0, .int .i64 0, .int .i64 0, .int .i64 0, .int .i64 0, .int .i64 0, .int .i64 0, .int .i64 0, .int .i64 0, .int .i64 0, .int .i64 0, .int .i64 0] 60)) w2.heap.size zL := KBlk.new w2 zL
      have HL := hid (setRow_later (hL.trans (Later.alloc w2 (.cells #[.int .i64 0, .int .i64 0, .int .i64 0, .int .i64 0, .int .i64 0, .int .i64 0, .int .i64 0, .int .i64 0, .int .i64 0, .int .i64 0, .int .i64 0, .int .i64 0, .int .i64 0, .int .i64 0, .int .i64 0, .int .i64 0] 60))) (B := w2.heap.size) hL.size (kA L))
      have HST := hid (hB.store rfl (L' := L) HG.out.1)
      clear hL hB
      go_wp2_with (refine wpList_storeK _ ((w2.alloc (.cells #[.int .i64 0, .int .i64 0, .int .i64 0, .int .i64 0, .int .i64 0, .int .i64 0, .int .i64 0, .int .i64 0, .int .i64 0, .int .i64 0, .int .i64 0, .int .i64 0, .int .i64 0, .int .i64 0, .int .i64 0, .int .i64 0] 60)).setRow w2.heap.size (kA L)) (by rfl) 60 _ _ (by rfl) ⟨w2.heap.size, 0, none⟩ (by rfl) (.agg (kA L)) (by rfl) (by exact HST.out) (fun u => ?_))
      generalize (w2.alloc (.cells #[.int .i64 0, .int .i64 0, .int .i64 0, .int .i64 0, .int .i64 0, .int .i64 0, .int .i64 0, .int .i64 0, .int .i64 0, .int .i64 0, .int .i64 0, .int .i64 0, .int .i64 0, .int .i64 0, .int .i64 0, .int .i64 0] 60)).setRow w2.heap.size (kA L) = w3 at HL ⊢
      refine (idxWordC_as _ zs false _ HW.out (HZ.out.later HL.out)).mono ?_
      rintro e w4 ⟨rfl, rfl⟩
      go_wp2_with fail
      go_ret2
      exact ⟨_, by rw [HA.out]; rfl, by rw [HA.out]; exact OwnCis.nothing _ _ _, HL.out⟩
    · have HW := hid hw
      have HA := hid (show followAns L zs = followL L zs by unfold followAns; rw [if_pos ⟨h4, hw⟩])
      obtain ⟨F, hF⟩ : ∃ F, followL L zs = F := ⟨_, rfl⟩
      rw [hF] at HA
      have HF := hid hF
      clear h4 h hz hw hF hWa
      go_enter Try.func33, Try.ntmps33
      go_wp2_with fail
      refine HC.out.mono ?_
      rintro e w2 ⟨rfl, hL⟩
      have hB : KBlk (w2.alloc (.cells #[.int .i64 0, .int .i64 0, .int .i64 0, .int .i64 0, .int .i64 0, .int .i64 0, .int .i64 0, .int .i64 0, .int .i64 0, .int .i64 0, .int .i64 0, .int .i64 0, .int .i64 0, .int .i64 0, .int .i64 0, .int .i64 0] 60)) w2.heap.size zL := KBlk.new w2 zL
      have HL := hid (setRow_later (hL.trans (Later.alloc w2 (.cells #[.int .i64 0, .int .i64 0, .int .i64 0, .int .i64 0, .int .i64 0, .int .i64 0, .int .i64 0, .int .i64 0, .int .i64 0, .int .i64 0, .int .i64 0, .int .i64 0, .int .i64 0, .int .i64 0, .int .i64 0, .int .i64 0] 60))) (B := w2.heap.size) hL.size (kA L))
      have HST := hid (hB.store rfl (L' := L) HG.out.1)
      have HB := hid (hB.set L)
      have HWS := hid hL.size
      obtain ⟨B, hBB⟩ : ∃ B, w2.heap.size = B := ⟨_, rfl⟩
      clear hL hB
      rw [hBB] at HL HST HB HWS
      go_wp2_with (refine wpList_storeK _ ((w2.alloc (.cells #[.int .i64 0, .int .i64 0, .int .i64 0, .int .i64 0, .int .i64 0, .int .i64 0, .int .i64 0, .int .i64 0, .int .i64 0, .int .i64 0, .int .i64 0, .int .i64 0, .int .i64 0, .int .i64 0, .int .i64 0, .int .i64 0] 60)).setRow B (kA L)) (by rfl) 60 _ _ (by rfl) ⟨B, 0, none⟩ (by rfl) (.agg (kA L)) (by rfl) (by exact HST.out) (fun u => ?_))
      generalize (w2.alloc (.cells #[.int .i64 0, .int .i64 0, .int .i64 0, .int .i64 0, .int .i64 0, .int .i64 0, .int .i64 0, .int .i64 0, .int .i64 0, .int .i64 0, .int .i64 0, .int .i64 0, .int .i64 0, .int .i64 0, .int .i64 0, .int .i64 0] 60)).setRow B (kA L) = w3 at HL HB ⊢
      clear hBB
      refine (idxWordC_as _ zs true _ HW.out (HZ.out.later HL.out)).mono ?_
      rintro e w4 ⟨rfl, rfl⟩
      go_wp2_with fail
      go_loopw [24] (fun j wr => ∃ (k : Nat) (Lk : List Ci4), k ≤ zs.length ∧ j = .int .i64 k ∧ GoodL Lk ∧ followL Lk (zs.drop k) = F ∧ KBlk wr B Lk ∧ Later w wr) (fun j _ => zs.length - (intOf j).toNat)
      case atStart => exact ⟨0, L, Nat.zero_le _, rfl, HG.out, HF.out, HB.out, HL.out⟩
      case round =>
        clear HB HL HST
        obtain ⟨k, Lk, hk, rfl, hG, hFk, hB, hL⟩ := hrel
        have HGk := hid hG
        have HFk := hid hFk
        have HB := hid hB
        have HL := hid hL
        by_cases hlt : k < zs.length
        · obtain ⟨i, hzi, hi⟩ := wordC_at HW.out k hlt
          obtain ⟨_, _, e1, _, hcs⟩ := HZ.out.later hL
          simp only [Value.slice.injEq] at e1
          obtain ⟨rfl, _, rfl⟩ := e1
          obtain ⟨ad, rfl, hcell⟩ := hcs k hlt
          rw [hzi] at hcell
          have hst := followL_drop Lk zs k i hlt hzi
          rw [hFk] at hst
          have HST := hid hst
          have HI := hid hi
          have hi4 : (i : Int) < 4 := by omega
          have HSW := hid (swappedK_any Lk i wr hi hG.1 hG.bd)
          have HN6 := hid (swL_len4 Lk i hG.1)
          clear hst hG hFk hB hL hcs hzi
          go_wp2_with (refine wpList_loadK _ (by rfl) 60 _ (by rfl) ⟨B, 0, none⟩ (by rfl) Try.isAgg60 16 Try.sizeOf60 (kA Lk) (by exact HB.out.load HGk.out.1) ?_)
          refine HSW.out.mono ?_
          rintro e w5 ⟨rfl, hL5⟩
          have HB5 := hid (HB.out.later hL5)
          have HB6 := hid (HB5.out.set (ciSwL Lk i))
          have HL6 := hid (setRow_later (HL.out.trans hL5) (by exact HWS.out) (kA (ciSwL Lk i)))
          obtain ⟨⟨c0, c1, c2, c3⟩, _⟩ := HB6.out.at HN6.out i hi
          rw [swL_same Lk i HGk.out.1 hi] at c0 c1 c2 c3
          have HGN := hid (fun hc => HGk.out.step HI.out hc)
          obtain ⟨t, ht⟩ : ∃ t, ciNew Lk i = t := ⟨_, rfl⟩
          rw [ht] at c0 c1 c2 c3 HST HGN
          obtain ⟨p, q, r, s⟩ := t
          simp only at c0 c1 c2 c3
          clear hL5 ht hcell
          go_wp2_with (refine wpList_storeK _ (w5.setRow B (kA (ciSwL Lk i))) (by rfl) 60 _ _ (by rfl) ⟨B, 0, none⟩ (by rfl) (.agg (kA (ciSwL Lk i))) (by rfl) (by exact HB5.out.store HGk.out.1 HN6.out) (fun u => ?_))
          generalize w5.setRow B (kA (ciSwL Lk i)) = w6 at HB6 HL6 c0 c1 c2 c3 ⊢
          cases hb : ciB (p, q, r, s)
          · have HBB := hid hb
            have HFN := hid (show F = none by have := HST.out; rw [hb] at this; simpa using this)
            clear hb
            refine (isCircle_as p q r s false _ HBB.out).mono ?_
            rintro e w7 ⟨rfl, hL7⟩
            have HL7 := hid (HL6.out.trans hL7)
            clear hL7
            go_wp2_with fail
            go_ret2
            exact ⟨_, by rw [HA.out, HFN.out]; rfl, by rw [HA.out, HFN.out]; exact OwnCis.nothing _ _ _, HL7.out⟩
          · have HBB := hid hb
            have HFN := hid (show followL (ciSwL Lk i) (zs.drop (k + 1)) = F by have := HST.out; rw [hb] at this; simpa using this.symm)
            have HG2 := hid (HGN.out hb)
            clear hb
            refine (isCircle_as p q r s true _ HBB.out).mono ?_
            rintro e w7 ⟨rfl, hL7⟩
            have HL7 := hid (HL6.out.trans hL7)
            have HB7 := hid (HB6.out.later hL7)
            clear hL7
            go_wp2_with fail
            go_roundw
            case rel => exact ⟨k + 1, ciSwL Lk i, hlt, by go_num, HG2.out, HFN.out, HB7.out, HL7.out⟩
            case measure => simp [intOf]; omega
        · obtain rfl : k = zs.length := by omega
          have HE := hid (show F = some Lk by have := HFk.out; rw [List.drop_length] at this; exact this.symm)
          clear hG hFk hB hL
          go_wp2_with fail
          obtain ⟨i0, hi, hz0, hz1, hz2⟩ := info_parts Try.infoCi
          refine (AnyE.slices_Clone laysCl41 i0 (.agg #[.int .i64 0, .int .i64 0, .int .i64 0, .int .i64 0]) 4 32 hi hz0 hz1 hz2 rfl (by omega) Try.sizeOf50 B 0 4 4 (ciCells Lk) wr (by rw [ciCells_len, HGk.out.1]) (by unfold maxLen; omega) (by omega) (fun j u hj => by rw [Nat.zero_add, HB.out.cell j]; exact hj) (one_ci Lk)).mono ?_
          rintro e w5 ⟨v5, rfl, ho, _, hL5⟩
          have HL5 := hid (HL.out.trans hL5)
          have HO := hid (show OwnCis wr.heap.size w5.heap.size w5 v5 Lk from ⟨by rw [HGk.out.1]; exact ho, fun b hb => (ho.lt b hb).2⟩)
          clear ho hL5
          go_wp2_with fail
          go_ret2
          exact ⟨_, by rw [HA.out, HE.out]; rfl, by rw [HA.out, HE.out]; exact HO.out.wide HL.out.size (Nat.le_refl _), HL5.out⟩
end Go.Proofs.Ytljikcajfmnnmab
