/- Equations of Hurwitz: what is behind a jump at each index (the program). -/
import Derived.Test.YtoaopmafokoaoaaHuTr
import Derived.Test.YtoaopmafokoaoaaHuY
namespace Go.Proofs.Ytoaopmafokoaoaa
open Go.RowKit

def toSo (l : List Int) : So := (l.getD 0 0, l.getD 1 0, l.getD 2 0, l.getD 3 0)
def noSo : So := (0, 0, 0, 0)
theorem toSo_qL (x y z t : Int) : toSo (qL x y z t) = (x, y, z, t) := by
  unfold toSo qL
  split <;> simp_all
/-- what is behind a jump at an index, with zeros where it cannot be done -/
def nbQ (a : Int) (zs : List Int) (i : Nat) : So := ((jumpL a zs i).map toSo).getD noSo
def nbL (a : Int) (zs : List Int) (m : Nat) : List So := (List.range m).map (nbQ a zs) ++ List.replicate (zs.length - m) noSo
theorem nbL_len (a : Int) (zs : List Int) (m : Nat) (h : m ≤ zs.length) : (nbL a zs m).length = zs.length := by simp [nbL]; omega
theorem nbL_step (a : Int) (zs : List Int) (m : Nat) (h : m < zs.length) : nbL a zs (m + 1) = (nbL a zs m).set m (nbQ a zs m) := by
  unfold nbL
  obtain ⟨k, hk⟩ : ∃ k, zs.length - m = k + 1 := ⟨zs.length - m - 1, by omega⟩
  rw [List.range_succ, List.map_append, List.append_assoc, hk, show zs.length - (m + 1) = k by omega, List.replicate_succ]
  rw [List.set_append_right _ _ (by simp)]
  simp
theorem nbL_all (a : Int) (zs : List Int) : nbL a zs zs.length = (List.range zs.length).map (nbQ a zs) := by simp [nbL]
theorem soCells_set (L : List So) (k : Nat) (h : k < L.length) (p q r s : Int) : ((((soCells L).set (k * 4) (.int .i64 p)).set (k * 4 + 1) (.int .i64 q)).set (k * 4 + 2) (.int .i64 r)).set (k * 4 + 3) (.int .i64 s) = soCells (L.set k (p, q, r, s)) := by
  induction L generalizing k with
  | nil => simp at h
  | cons t L ih =>
    cases k with
    | zero => simp [soCells, soV]
    | succ k =>
      have := ih k (by simpa using h)
      rw [show (k + 1) * 4 = k * 4 + 4 by omega, show k * 4 + 4 + 1 = (k * 4 + 1) + 4 by omega, show k * 4 + 4 + 2 = (k * 4 + 2) + 4 by omega, show k * 4 + 4 + 3 = (k * 4 + 3) + 4 by omega]
      simp only [List.set_cons_succ]
      rw [show soCells (t :: L) = .int .i64 t.1 :: .int .i64 t.2.1 :: .int .i64 t.2.2.1 :: .int .i64 t.2.2.2 :: soCells L by simp [soCells, soV]]
      rw [show soCells (t :: L.set k (p, q, r, s)) = .int .i64 t.1 :: .int .i64 t.2.1 :: .int .i64 t.2.2.1 :: .int .i64 t.2.2.2 :: soCells (L.set k (p, q, r, s)) by simp [soCells, soV]]
      rw [← this]
      simp only [List.set_cons_succ]
theorem OwnSols.put {lo : Nat} {w : World} {g cap : Nat} {L : List So} (h : OwnSols lo w (.slice (some ⟨g, 0, none⟩) L.length cap) L) (k : Nat) (hk : k < L.length) (p q r s : Int) :
    OwnSols lo ((((w.setCell ⟨g, k * 4, none⟩ (.int .i64 p)).setCell ⟨g, k * 4 + 1, none⟩ (.int .i64 q)).setCell ⟨g, k * 4 + 2, none⟩ (.int .i64 r)).setCell ⟨g, k * 4 + 3, none⟩ (.int .i64 s)) (.slice (some ⟨g, 0, none⟩) L.length cap) (L.set k (p, q, r, s)) := by
  have h1 := (World.ownsRow.stored h (k * 4) (.int .i64 p)).1
  have h2 := (World.ownsRow.stored h1 (k * 4 + 1) (.int .i64 q)).1
  have h3 := (World.ownsRow.stored h2 (k * 4 + 2) (.int .i64 r)).1
  have h4 := (World.ownsRow.stored h3 (k * 4 + 3) (.int .i64 s)).1
  unfold OwnSols
  rw [List.length_set, ← soCells_set L k hk]
  exact h4
theorem OwnSols.openAt {lo : Nat} {w : World} {g cap n : Nat} {L : List So} (h : OwnSols lo w (.slice (some ⟨g, 0, none⟩) n cap) L) (hn : L.length = n) (k : Nat) (hk : k < n) :
    (∃ m0 m1 m2 m3, w.cell? ⟨g, k * 4, none⟩ = some m0 ∧ w.cell? ⟨g, k * 4 + 1, none⟩ = some m1 ∧ w.cell? ⟨g, k * 4 + 2, none⟩ = some m2 ∧ w.cell? ⟨g, k * 4 + 3, none⟩ = some m3) ∧
    w.frozen? ⟨g, k * 4, none⟩ = false ∧ w.frozen? ⟨g, k * 4 + 1, none⟩ = false ∧ w.frozen? ⟨g, k * 4 + 2, none⟩ = false ∧ w.frozen? ⟨g, k * 4 + 3, none⟩ = false := by
  subst hn
  have hat := soCells_at L k hk
  have h' : w.ownsRow lo 69 4 (.slice (some ⟨g, 0, none⟩) L.length cap) L.length (soCells L) := h
  exact ⟨⟨_, _, _, _, (h'.cellAt (k * 4) (by omega)).trans hat.1, (h'.cellAt (k * 4 + 1) (by omega)).trans hat.2.1, (h'.cellAt (k * 4 + 2) (by omega)).trans hat.2.2.1, (h'.cellAt (k * 4 + 3) (by omega)).trans hat.2.2.2⟩,
    h'.frozenAt _, h'.frozenAt _, h'.frozenAt _, h'.frozenAt _⟩
theorem made_sols (n : Nat) (h : n = 3 ∨ n = 4) : (madeCells #[Value.int .i64 0, .int .i64 0, .int .i64 0, .int .i64 0] (n * 4)).toList = soCells (List.replicate n noSo) := by
  rcases h with rfl | rfl <;> simp [madeCells, soCells, soV, noSo, List.replicate] <;> rfl
theorem set4_farK (w : World) (B k b : Nat) (p q r s : Int) (h : b ≠ B) :
    ((((w.setCell ⟨B, k * 4, none⟩ (.int .i64 p)).setCell ⟨B, k * 4 + 1, none⟩ (.int .i64 q)).setCell ⟨B, k * 4 + 2, none⟩ (.int .i64 r)).setCell ⟨B, k * 4 + 3, none⟩ (.int .i64 s)).heap[b]? = w.heap[b]? := by
  rw [heap_setCell_other _ _ b _ h, heap_setCell_other _ _ b _ h, heap_setCell_other _ _ b _ h, heap_setCell_other _ _ b _ h]
theorem set4_laterK {w0 w : World} {B : Nat} (h : Later w0 w) (hB : w0.heap.size ≤ B) (k : Nat) (p q r s : Int) :
    Later w0 ((((w.setCell ⟨B, k * 4, none⟩ (.int .i64 p)).setCell ⟨B, k * 4 + 1, none⟩ (.int .i64 q)).setCell ⟨B, k * 4 + 2, none⟩ (.int .i64 r)).setCell ⟨B, k * 4 + 3, none⟩ (.int .i64 s)) :=
  Below.setCell (Below.setCell (Below.setCell (Below.setCell h hB _) hB _) hB _) hB _
def NbRes (w : World) (N : List So) (e : Ending) (w' : World) : Prop := ∃ v, e = .returned v ∧ OwnSols w.heap.size w' v N ∧ Later w w'

set_option maxRecDepth 20000 in
set_option maxHeartbeats 4000000 in
theorem neighbours_any (x y z t a b : Int) (w : World) (hS : Sol (qL x y z t) a b) (hq : Q4 x y z t) :
    Calls Try.prog 102 #[.agg #[.int .i64 x, .int .i64 y, .int .i64 z, .int .i64 t], .int .i64 a] w fun e w' => NbRes w ((List.range (qN t)).map (nbQ a (qL x y z t))) e w' := by
  obtain ⟨i0, hi, hz0, hz1, hz2⟩ := info_parts Try.infoSo
  have HS := hid hS
  have HQ := hid hq
  have HNB := hid (qN_bd t)
  have HNL := hid (qL_len x y z t)
  have HB := hid (Box4.new w x y z t)
  have HL := hid (Later.alloc w (.cells #[.int .i64 x, .int .i64 y, .int .i64 z, .int .i64 t] 69))
  obtain ⟨n, hn⟩ : ∃ n, qN t = n := ⟨_, rfl⟩
  have HN := hid hn
  have hnb := HNB.out
  rw [hn] at HNB HNL hnb ⊢
  clear hS hq hn
  go_enter Try.func102, Try.ntmps102
  go_wp2_with fail
  generalize w.alloc (.cells #[.int .i64 x, .int .i64 y, .int .i64 z, .int .i64 t] 69) = w1 at HL HB ⊢
  obtain ⟨B, hB⟩ : ∃ B, w.heap.size = B := ⟨_, rfl⟩
  have HBW := hid (show w.heap.size ≤ B by omega)
  rw [hB] at HB ⊢
  clear hB
  refine (jumpFor_any a _).mono ?_
  rintro e w3 ⟨Ba, hBa, rfl, ca, hL3⟩
  have HB3 := hid (HB.out.later hL3)
  have HL3 := hid (HL.out.trans hL3)
  have HCA := hid ca
  obtain ⟨⟨c0, c1, c2, c3⟩, f0, f1, f2, f3⟩ := HB3.out
  clear hL3 HB HL hBa ca f0 f1 f2 f3
  go_wp2_with fail
  refine (parts_any x y z t _).mono ?_
  rintro e w4 ⟨rfl, hL4⟩
  have HB4 := hid (HB3.out.later hL4)
  have HCA4 := hid (hL4.cell HCA.out)
  have HL4 := hid (HL3.out.trans hL4)
  rw [HN.out]
  clear hL4 HB3 HCA HL3 c0 c1 c2 c3
  go_wp2_with (at_make; refine wpList_make_full _ rfl _ _ 72 rfl w4.heap.size 69 i0 (.agg #[.int .i64 0, .int .i64 0, .int .i64 0, .int .i64 0]) 4 Try.underlying72 hi hz0 hz1 _ _ _ _ n rfl rfl rfl rfl ?b2 ?b3 ?b4 ?_)
  case b2 => rw [hz2]; omega
  case b3 => unfold maxLen; omega
  case b4 => exact Nat.le_refl _
  intro w5 hown hgrow
  have hL5 : Later w w5 := HL4.out.grown hgrow HL4.out.size (by simp)
  have hLs : Later w4 w5 := (Below.refl _ _).grown hgrow (Nat.le_refl _) (by simp)
  have HB5 := hid (HB4.out.later hLs)
  have HCA5 := hid (hLs.cell HCA4.out)
  obtain ⟨C, hC⟩ : ∃ C, w4.heap.size = C := ⟨_, rfl⟩
  have HC := hid (show B < w4.heap.size ∧ Ba < w4.heap.size from ⟨HB4.out.arr.lt, World.block_lt_of_cell? w4 ⟨Ba, 0, none⟩ HCA4.out⟩)
  have HWC := hid (show w.heap.size ≤ w4.heap.size from HL4.out.size)
  rw [hC] at hown HC HWC ⊢
  have HO5 : Hid (OwnSols C w5 (.slice (some ⟨C, 0, none⟩) n n) (nbL a (qL x y z t) 0)) := hid (by
    have e : nbL a (qL x y z t) 0 = List.replicate n noSo := by simp [nbL, HNL.out]
    unfold OwnSols
    rw [e, ← made_sols n (by omega), List.length_replicate]
    exact hown)
  have HL5 := hid hL5
  clear hown hgrow hL5 hLs hC HB4 HCA4 HL4
  go_wp2_with fail
  go_loopw [15] (fun i wr => ∃ k : Nat, k ≤ n ∧ i = .int .i64 k ∧ Box4 wr B x y z t ∧ wr.cell? ⟨Ba, 0, none⟩ = some (.int .i64 a) ∧ OwnSols C wr (.slice (some ⟨C, 0, none⟩) n n) (nbL a (qL x y z t) k) ∧ Later w wr)
    (fun i _ => n - (intOf i).toNat)
  case atStart => exact ⟨0, Nat.zero_le _, rfl, HB5.out, HCA5.out, HO5.out, HL5.out⟩
  case round =>
    clear HB5 HCA5 HO5 HL5
    obtain ⟨k, hk, rfl, hBx, ca, hO, hL⟩ := hrel
    have HBx := hid hBx
    have HCA := hid ca
    have HO := hid hO
    have HL := hid hL
    obtain ⟨⟨c0, c1, c2, c3⟩, _⟩ := hBx
    clear ca hL
    by_cases hlt : k < n
    · have HK := hid (show k < qN t by rw [HN.out]; exact hlt)
      have HST := hid (nbL_step a (qL x y z t) k (by rw [HNL.out]; exact hlt))
      have HLK := hid (nbL_len a (qL x y z t) k (by rw [HNL.out]; exact hk))
      clear hO
      go_wp2_with fail
      refine (jumpC_any x y z t a b k Ba _ HS.out HQ.out HK.out HCA.out).mono ?_
      have key : ∀ (p q r s : Int) (w6 : World), nbQ a (qL x y z t) k = (p, q, r, s) → Later wr w6 → Hid (Box4 w6 B x y z t ∧ w6.cell? ⟨Ba, 0, none⟩ = some (.int .i64 a) ∧ OwnSols C w6 (.slice (some ⟨C, 0, none⟩) n n) (nbL a (qL x y z t) k) ∧ Later w w6 ∧ OwnSols C ((((w6.setCell ⟨C, k * 4, none⟩ (.int .i64 p)).setCell ⟨C, k * 4 + 1, none⟩ (.int .i64 q)).setCell ⟨C, k * 4 + 2, none⟩ (.int .i64 r)).setCell ⟨C, k * 4 + 3, none⟩ (.int .i64 s)) (.slice (some ⟨C, 0, none⟩) n n) (nbL a (qL x y z t) (k + 1))) := by
        intro p q r s w6 he hL6
        have ho := HO.out.later hL6
        refine hid ⟨HBx.out.later hL6, hL6.cell HCA.out, ho, HL.out.trans hL6, ?_⟩
        have hln := HLK.out.trans HNL.out
        rw [HST.out, he]
        have h1 : OwnSols C w6 (.slice (some ⟨C, 0, none⟩) (nbL a (qL x y z t) k).length n) (nbL a (qL x y z t) k) := by rw [hln]; exact ho
        have h2 := h1.put k (by rw [hln]; exact hlt) p q r s
        rw [hln] at h2
        exact h2
      have KEY := hid key
      clear key
      rintro e w6 (⟨hj, rfl, hL6⟩ | ⟨p', q', r', s', hj, hQ4, rfl, hL6⟩)
      · have hnb' := KEY.out 0 0 0 0 w6 (by unfold nbQ; rw [hj]; rfl) hL6
        clear hj hL6 c0 c1 c2 c3
        obtain ⟨⟨m0, m1, m2, m3, d0, d1, d2, d3⟩, g0, g1, g2, g3⟩ := hnb'.out.2.2.1.openAt (HLK.out.trans HNL.out) k hlt
        go_wp2_with fail
        go_roundw
        case rel => exact ⟨k + 1, hlt, by go_num, hnb'.out.1.keep (set4_farK _ _ _ _ _ _ _ _ (by have := HC.out.1; omega)), cell_keep hnb'.out.2.1 (set4_farK _ _ _ Ba _ _ _ _ (by have := HC.out.2; omega)), hnb'.out.2.2.2.2, set4_laterK hnb'.out.2.2.2.1 HWC.out _ _ _ _ _⟩
        case measure => simp [intOf]; omega
      · have hnb' := KEY.out p' q' r' s' w6 (by unfold nbQ; rw [hj]; exact toSo_qL _ _ _ _) hL6
        clear hj hL6 hQ4 c0 c1 c2 c3
        obtain ⟨⟨m0, m1, m2, m3, d0, d1, d2, d3⟩, g0, g1, g2, g3⟩ := hnb'.out.2.2.1.openAt (HLK.out.trans HNL.out) k hlt
        go_wp2_with fail
        go_roundw
        case rel => exact ⟨k + 1, hlt, by go_num, hnb'.out.1.keep (set4_farK _ _ _ _ _ _ _ _ (by have := HC.out.1; omega)), cell_keep hnb'.out.2.1 (set4_farK _ _ _ Ba _ _ _ _ (by have := HC.out.2; omega)), hnb'.out.2.2.2.2, set4_laterK hnb'.out.2.2.2.1 HWC.out _ _ _ _ _⟩
        case measure => simp [intOf]; omega
    · obtain rfl : k = n := by omega
      have HE := hid (show nbL a (qL x y z t) k = (List.range k).map (nbQ a (qL x y z t)) by have := nbL_all a (qL x y z t); rw [HNL.out] at this; exact this)
      clear hO
      go_wp2_with fail
      go_ret
      exact ⟨_, rfl, by rw [← HE.out]; exact HO.out.base HWC.out, HL.out⟩
end Go.Proofs.Ytoaopmafokoaoaa
