/- Slices of circles: copies, comparisons, marks. -/
import Derived.Test.YtljikcajfmnnmabCiL
namespace Go.Proofs.Ytljikcajfmnnmab
open Go.RowKit

theorem szCircleS_any (v : Value) (L : List Ci4) (l : Int) (w : World) (hl : 0 ≤ l ∧ l ≤ 1048576) (h : CisA w v L) :
    Calls Try.prog 15 #[v, .int .i64 l] w fun e w' => SzRes1 L.length l e ∧ w = w' := by
  obtain ⟨a, cap, rfl, hm, _⟩ := h
  obtain ⟨hl0, hl1⟩ := hl
  by_cases hx : (L.length : Int) ≤ l
  · have h1 : ¬ l - (L.length : Int) < 0 := by omega
    go_enter Try.func15, Try.ntmps15
    go_wp2
    go_ret
    exact ⟨⟨_, rfl, .inr ⟨by omega, by omega, hx⟩⟩, rfl⟩
  · have h1 : l - (L.length : Int) < 0 := by omega
    go_enter Try.func15, Try.ntmps15
    go_wp2
    go_ret
    exact ⟨⟨_, rfl, .inl rfl⟩, rfl⟩

/-- the first k of L, and zeros -/
def padC (L : List Ci4) (k : Nat) : List Ci4 := L.take k ++ List.replicate (L.length - k) c00
theorem padC_len (L : List Ci4) (k : Nat) : (padC L k).length = L.length := by
  unfold padC
  rw [List.length_append, List.length_take, List.length_replicate]
  omega
theorem padC_step (L : List Ci4) (k : Nat) (h : k < L.length) : (padC L k).set k L[k] = padC L (k + 1) := by
  unfold padC
  obtain ⟨m, hm⟩ : ∃ m, L.length - k = m + 1 := ⟨L.length - k - 1, by omega⟩
  rw [hm, show L.length - (k + 1) = m by omega, List.replicate_succ, List.set_append_right _ _ (by simp; omega)]
  have : k - (L.take k).length = 0 := by simp; omega
  rw [this, List.set_cons_zero, List.take_succ_eq_append_getElem h, List.append_assoc]
  rfl
theorem padC_all (L : List Ci4) : padC L L.length = L := by simp [padC]
theorem made_cis (n : Nat) : (madeCells #[Value.int .i64 0, .int .i64 0, .int .i64 0, .int .i64 0] (n * 4)).toList = ciCells (List.replicate n c00) := by
  apply List.ext_getElem
  · rw [Array.length_toList, size_madeCells, ciCells_len, List.length_replicate]
  · intro j h1 h2
    have hj : j < n * 4 := by rw [Array.length_toList, size_madeCells] at h1; exact h1
    have hq : (List.replicate n c00).length = n := by simp
    have ha := ciCells_at (List.replicate n c00) (j / 4) (by simp; omega)
    have h0 : (List.replicate n c00).getD (j / 4) c00 = c00 := by
      rw [List.getD_eq_getElem?_getD, List.getElem?_replicate, if_pos (by omega)]; rfl
    rw [h0] at ha
    have hr : (ciCells (List.replicate n c00))[j]? = some (.int .i64 0) := by
      have h4 : j = j / 4 * 4 + 0 ∨ j = j / 4 * 4 + 1 ∨ j = j / 4 * 4 + 2 ∨ j = j / 4 * 4 + 3 := by omega
      rcases h4 with e | e | e | e <;> rw [e]
      · exact ha.1
      · rw [show (j / 4 * 4 + 1) = j / 4 * 4 + 1 from rfl]; exact ha.2.1
      · exact ha.2.2.1
      · exact ha.2.2.2
    have hl : (madeCells #[Value.int .i64 0, .int .i64 0, .int .i64 0, .int .i64 0] (n * 4)).toList[j]? = some (.int .i64 0) := by
      have h4 : j % 4 = 0 ∨ j % 4 = 1 ∨ j % 4 = 2 ∨ j % 4 = 3 := by omega
      rcases h4 with e | e | e | e <;> simp [madeCells, hj, e]
    have e1 := List.getElem?_eq_getElem h1
    have e2 := List.getElem?_eq_getElem h2
    rw [hl] at e1
    rw [hr] at e2
    exact (Option.some.inj e1).symm.trans (Option.some.inj e2)
theorem add_next (ad : Addr) (n j : Nat) (hj : 0 < j) : ad.add (n + j) = ⟨(ad.add n).block, (ad.add n).off + j, none⟩ := by
  unfold Addr.add
  by_cases hn : n = 0
  · subst hn; simp; omega
  · rw [if_neg (by omega), if_neg hn]; simp; omega
theorem CisA.at {w : World} {a : Option Addr} {n cap : Nat} {L : List Ci4} (h : CisA w (.slice a n cap) L) (k : Nat) (hk : k < L.length) :
    ∃ ad, a = some ad ∧ w.cell? (ad.add (k * 4)) = some (.int .i64 (L.getD k c00).1) ∧ w.cell? ⟨(ad.add (k * 4)).block, (ad.add (k * 4)).off + 1, none⟩ = some (.int .i64 (L.getD k c00).2.1) ∧ w.cell? ⟨(ad.add (k * 4)).block, (ad.add (k * 4)).off + 2, none⟩ = some (.int .i64 (L.getD k c00).2.2.1) ∧ w.cell? ⟨(ad.add (k * 4)).block, (ad.add (k * 4)).off + 3, none⟩ = some (.int .i64 (L.getD k c00).2.2.2) := by
  obtain ⟨a', cap', e, _, hc⟩ := h
  simp only [Value.slice.injEq] at e
  obtain ⟨rfl, _, _⟩ := e
  obtain ⟨ad, rfl, h0, h1, h2, h3⟩ := hc k hk
  rw [add_next _ _ _ (by omega)] at h1 h2 h3
  exact ⟨ad, rfl, h0, h1, h2, h3⟩

set_option maxRecDepth 20000 in
set_option maxHeartbeats 1000000 in
theorem toCircleS_any (v : Value) (L : List Ci4) (w : World) (hb : L.length ≤ 1048576) (h : CisA w v L) :
    Calls Try.prog 17 #[v] w fun e w' => MadeCis w L e w' := by
  obtain ⟨a, cap, rfl, hl, _⟩ := id h
  have HC := hid h
  clear h
  obtain ⟨i0, hi, hz0, hz1, hz2⟩ := info_parts Try.infoCi
  have HB := hid hz2
  go_enter Try.func17, Try.ntmps17
  go_wp2_with (at_make; refine wpList_make_full _ rfl _ _ 22 rfl w.heap.size 50 i0 (.agg #[.int .i64 0, .int .i64 0, .int .i64 0, .int .i64 0]) 4 Try.underlying22 hi hz0 hz1 _ _ _ _ L.length rfl rfl rfl rfl ?b2 ?b3 ?b4 ?_)
  case b2 => rw [HB.out]; omega
  case b3 => unfold maxLen; omega
  case b4 => exact Nat.le_refl _
  intro w1 hown hgrow
  have hL : Later w w1 := (Below.refl _ _).grown hgrow (Nat.le_refl _) (by simp)
  obtain ⟨G, hG⟩ : ∃ G, w.heap.size = G := ⟨_, rfl⟩
  have HG := hid hG
  have HO : Hid (OwnCis G (G + 1) w1 (.slice (some ⟨G, 0, none⟩) L.length L.length) (padC L 0)) := hid ⟨by
    rw [padC_len, show padC L 0 = List.replicate L.length c00 by simp [padC], ← made_cis L.length, ← hG]
    exact hown, fun k hk => by simp [Value.ownBlock] at hk; omega⟩
  have HL := hid hL
  rw [hG] at hown ⊢
  clear hown hgrow hL hG
  go_wp2
  go_loopw [4] (fun i wr => ∃ k : Nat, k ≤ L.length ∧ i = .int .i64 k ∧ OwnCis G (G + 1) wr (.slice (some ⟨G, 0, none⟩) L.length L.length) (padC L k) ∧ Later w wr)
    (fun i _ => L.length - (intOf i).toNat)
  case atStart => exact ⟨0, Nat.zero_le _, rfl, HO.out, HL.out⟩
  case round =>
    clear HO HL
    obtain ⟨k, hk, rfl, hO, hLk⟩ := hrel
    have HO := hid hO
    have HL := hid hLk
    by_cases hlt : k < L.length
    · obtain ⟨ad, rfl, d0, d1, d2, d3⟩ := (HC.out.later hLk).at k hlt
      have HS := hid (padC_step L k hlt)
      have HT := hid (show L.getD k c00 = L[k] by simp [hlt])
      rw [HT.out] at d0 d1 d2 d3
      obtain ⟨t, ht⟩ : ∃ t, L[k] = t := ⟨_, rfl⟩
      rw [ht] at d0 d1 d2 d3 HS
      obtain ⟨p, q, r, s⟩ := t
      simp only at d0 d1 d2 d3
      clear ht hO hLk HT
      go_wp2_with fail
      refine (toCircle_any p q r s _).mono ?_
      rintro e w2 ⟨rfl, hL2⟩
      have HO2 := hid (HO.out.later hL2)
      have HL2 := hid (HL.out.trans hL2)
      obtain ⟨⟨e0, e1, e2, e3⟩, f0, f1, f2, f3⟩ := HO2.out.openAt (padC_len L k) k hlt
      have HP := hid (by have := OwnCis.put (by rw [padC_len]; exact HO2.out) k (by rw [padC_len]; exact hlt) p q r s; rwa [HS.out, padC_len] at this)
      have HLP := hid (set4_later HL2.out (show w.heap.size ≤ G by rw [HG.out]; exact Nat.le_refl _) (k * 4) (.int .i64 p) (.int .i64 q) (.int .i64 r) (.int .i64 s))
      clear hL2 HO HL
      go_wp2_with fail
      go_roundw
      case rel => exact ⟨k + 1, hlt, by go_num, HP.out, HLP.out⟩
      case measure => simp [intOf]; omega
    · obtain rfl : k = L.length := by omega
      go_wp2
      go_ret
      have hO2 := HO.out
      rw [padC_all] at hO2
      exact ⟨_, rfl, ⟨ownsRow_base4 hO2.1 (by rw [HG.out]; exact Nat.le_refl _), fun b hb => (hO2.1.lt b hb).2⟩, HL.out⟩
end Go.Proofs.Ytljikcajfmnnmab
