/- CiD, CiE, CiF, CiG, CiH, CiI, CiJ: in one text. -/
import Derived.Test.YtoaopmafokoaoaaCiC
import Derived.Test.YtoaopmafokoaoaaLayCfC
import Derived.Deep.AppendLies
namespace Go.Proofs.Ytoaopmafokoaoaa
open Go.RowKit


def startAns (k : Int) : Option (List Ci4) := if k = 0 then some [(1, -1, 0, 0), (0, 2, 1, 0), (0, 2, -1, 0), (1, 3, 0, 2)] else if k = 1 then some [(4, 0, 0, 1), (0, 0, 0, -1), (0, 1, 0, 1), (4, 1, 2, 1)] else none
theorem startAns_len (k : Int) : ((startAns k).getD []).length ≤ 1000000000000 := by
  unfold startAns
  split
  · simp
  · split <;> simp
theorem OwnCis.lit (w : World) (L : List Ci4) (hn : L.length ≤ 1000) : OwnCis w.heap.size (w.alloc (.cells (ciCells L).toArray 103)).heap.size (w.alloc (.cells (ciCells L).toArray 103)) (.slice (some ⟨w.heap.size, 0, none⟩) L.length L.length) L := by
  have h := World.ownsRow_lit (e := 103) (size := 4) w (ciCells L).toArray L.length (Nat.le_refl _) (by unfold maxLen; omega) (by simp [ciCells_len])
  refine ⟨by simpa using h, fun k hk => ?_⟩
  simp [Value.ownBlock] at hk ⊢
  omega
set_option maxRecDepth 20000 in
set_option maxHeartbeats 1000000 in
theorem startS_any (k : Int) (w : World) :
    Calls Try.prog 42 #[.int .i64 k] w fun e w' => CisAns w (startAns k) e w' := by
  by_cases h0 : k = 0
  · subst h0
    have HO := hid (OwnCis.lit w [(1, -1, 0, 0), (0, 2, 1, 0), (0, 2, -1, 0), (1, 3, 0, 2)] (by simp))
    have HL := hid (Later.alloc w (.cells (ciCells [(1, -1, 0, 0), (0, 2, 1, 0), (0, 2, -1, 0), (1, 3, 0, 2)]).toArray 103))
    go_enter Try.func42, Try.ntmps42
    go_wp2_with fail
    go_ret2
    exact ⟨_, rfl, HO.out, HL.out⟩
  · have b0 : (k == 0) = false := by simp [h0]
    by_cases h1 : k = 1
    · subst h1
      have HO := hid (OwnCis.lit w [(4, 0, 0, 1), (0, 0, 0, -1), (0, 1, 0, 1), (4, 1, 2, 1)] (by simp))
      have HL := hid (Later.alloc w (.cells (ciCells [(4, 0, 0, 1), (0, 0, 0, -1), (0, 1, 0, 1), (4, 1, 2, 1)]).toArray 103))
      go_enter Try.func42, Try.ntmps42
      go_wp2_with fail
      go_ret2
      exact ⟨_, rfl, HO.out, HL.out⟩
    · have b1 : (k == 1) = false := by simp [h1]
      have HA := hid (show startAns k = none by unfold startAns; rw [if_neg h0, if_neg h1])
      rw [HA.out]
      go_enter Try.func42, Try.ntmps42
      go_wp2_with fail
      go_ret2
      exact ⟨_, rfl, OwnCis.nothing _ _ _, Later.refl _⟩
set_option maxRecDepth 20000 in
set_option maxHeartbeats 1000000 in
theorem startP_any (k : Int) (w : World) :
    Calls Try.prog 41 #[.int .i64 k] w fun e w' => CisAns w (startAns k) e w' := by
  by_cases h0 : k = 0
  · subst h0
    have HO := hid (OwnCis.lit w [(1, -1, 0, 0), (0, 2, 1, 0), (0, 2, -1, 0), (1, 3, 0, 2)] (by simp))
    have HL := hid (Later.alloc w (.cells (ciCells [(1, -1, 0, 0), (0, 2, 1, 0), (0, 2, -1, 0), (1, 3, 0, 2)]).toArray 103))
    go_enter Try.func41, Try.ntmps41
    go_wp2_with fail
    go_ret2
    exact ⟨_, rfl, HO.out, HL.out⟩
  · have b0 : (k == 0) = false := by simp [h0]
    by_cases h1 : k = 1
    · subst h1
      have HO := hid (OwnCis.lit w [(4, 0, 0, 1), (0, 0, 0, -1), (0, 1, 0, 1), (4, 1, 2, 1)] (by simp))
      have HL := hid (Later.alloc w (.cells (ciCells [(4, 0, 0, 1), (0, 0, 0, -1), (0, 1, 0, 1), (4, 1, 2, 1)]).toArray 103))
      go_enter Try.func41, Try.ntmps41
      go_wp2_with fail
      go_ret2
      exact ⟨_, rfl, HO.out, HL.out⟩
    · have b1 : (k == 1) = false := by simp [h1]
      have HA := hid (show startAns k = none by unfold startAns; rw [if_neg h0, if_neg h1])
      rw [HA.out]
      go_enter Try.func41, Try.ntmps41
      go_wp2_with fail
      go_ret2
      exact ⟨_, rfl, OwnCis.nothing _ _ _, Later.refl _⟩


set_option maxRecDepth 20000 in
theorem notCircle_any (a b x y : Int) (w : World) :
    Calls Try.prog 146 #[.agg #[.int .i64 a, .int .i64 b, .int .i64 x, .int .i64 y]] w fun e w' => BoolRes w (!ciB (a, b, x, y)) e w' := by
  have HL := hid (Later.alloc w (.cells #[.int .i64 a, .int .i64 b, .int .i64 x, .int .i64 y] 103))
  go_enter Try.func146, Try.ntmps146
  go_wp2_with fail
  generalize w.alloc (.cells #[.int .i64 a, .int .i64 b, .int .i64 x, .int .i64 y] 103) = w1 at HL ⊢
  refine (isCircle_any a b x y _).mono ?_
  rintro e w2 ⟨rfl, hL⟩
  have HL2 := hid (HL.out.trans hL)
  clear hL
  go_wp2_with fail
  go_ret
  exact ⟨rfl, HL2.out⟩
theorem indexNil_any (a : Option Addr) (c : Nat) (f : Value) (w : World) :
    Calls Try.prog 156 #[.slice a 0 c, f] w fun e w' => e = .returned (.int .i64 (-1)) ∧ w = w' := by
  go_enter Try.func156, Try.ntmps156
  go_wp2_with fail
  refine wp_loop_rounds 1 ?_; rw [rounds_succ]
  go_wp2_with fail
  go_ret
  exact ⟨rfl, rfl⟩
theorem containsNil_any (a : Option Addr) (c : Nat) (f : Value) (w : World) :
    Calls Try.prog 145 #[.slice a 0 c, f] w fun e w' => e = .returned (.bool false) ∧ w = w' := by
  go_enter Try.func145, Try.ntmps145
  go_wp2_with fail
  refine (indexNil_any a c f _).mono ?_
  rintro e w2 ⟨rfl, rfl⟩
  go_wp2_with fail
  go_ret
  exact ⟨rfl, rfl⟩
theorem pred_any (w : World) : PredBelow Try.prog 146 #[] (fun x : Ci4 => .agg (ciVs x).toArray) (fun x => !ciB x) w := by
  intro W x hb
  obtain ⟨a, b, c, d⟩ := x
  refine (notCircle_any a b c d W).mono ?_
  rintro e w' ⟨rfl, hL⟩
  exact ⟨rfl, hb.trans (Below.mono hL hb.size)⟩
theorem any_not (L : List Ci4) : (L.any fun x => !ciB x) = !L.all ciB := by simp [List.not_all_eq_any_not]
theorem containsC_any (v : Value) (L : List Ci4) (w : World) (h : Cis w v L) :
    Calls Try.prog 145 #[v, .func (.func 146) #[] #[]] w fun e w' => BoolRes w (!L.all ciB) e w' := by
  obtain ⟨a, cap, rfl, hl, hcap, hc⟩ := h
  cases L with
  | nil =>
    refine (containsNil_any a cap _ w).mono ?_
    rintro e w' ⟨rfl, rfl⟩
    exact ⟨rfl, Later.refl _⟩
  | cons t L =>
    obtain ⟨g, rfl, h0, _⟩ := hc 0 (by simp)
    have hg : g < w.heap.size := World.block_lt_of_cell? w ⟨g, 0 * 4, none⟩ h0
    refine (AnyQ.slices_ContainsFunc laysCf8 4 Try.isAgg103 Try.sizeOf103 ciVs (fun x => rfl) (fun x => !ciB x) 146 #[] Try.call146 g 0 (t :: L).length cap (t :: L) w (pred_any w) (Nat.le_refl _) (by omega) hg (fun j hj i v hv => ?_)).mono ?_
    · obtain ⟨g', e, c0, c1, c2, c3⟩ := hc j hj
      simp only [Option.some.injEq, Addr.mk.injEq, and_true] at e
      subst e
      rw [show (t :: L)[j]! = (t :: L).getD j c00 by rw [List.getElem!_eq_getElem?_getD, List.getD_eq_getElem?_getD]; rfl] at hv
      have h4 : i = 0 ∨ i = 1 ∨ i = 2 ∨ i = 3 ∨ 4 ≤ i := by omega
      rcases h4 with rfl | rfl | rfl | rfl | h4
      · simp [ciVs] at hv; subst hv; simpa using c0
      · simp [ciVs] at hv; subst hv; simpa using c1
      · simp [ciVs] at hv; subst hv; simpa using c2
      · simp [ciVs] at hv; subst hv; simpa using c3
      · rw [List.getElem?_eq_none (by simp [ciVs]; omega)] at hv
        cases hv
    · rintro e w' ⟨rfl, hb⟩
      rw [List.take_of_length_le (Nat.le_refl _), any_not]
      exact ⟨rfl, hb⟩
theorem areCircles_any (v : Value) (L : List Ci4) (w : World) (h : Cis w v L) :
    Calls Try.prog 122 #[v] w fun e w' => BoolRes w (L.all ciB) e w' := by
  obtain ⟨a, cap, rfl, _⟩ := id h
  have H := hid h
  clear h
  go_enter Try.func122, Try.ntmps122
  go_wp2_with fail
  refine (containsC_any _ L _ H.out).mono ?_
  rintro e w2 ⟨rfl, hL⟩
  have HL := hid hL
  clear hL
  go_wp2_with fail
  go_ret
  exact ⟨ret_bool (by simp), HL.out⟩
theorem areCircles_as (v : Value) (L : List Ci4) (o : Bool) (w : World) (h : Cis w v L) (ho : L.all ciB = o) :
    Calls Try.prog 122 #[v] w fun e w' => BoolRes w o e w' := by
  subst ho; exact areCircles_any v L w h

/-! ### the model's test of four circles -/
def fourB (L : List Ci4) : Bool := decide (L.length = 4) && L.all ciB
theorem all_take (p : Ci4 → Bool) (L : List Ci4) (k : Nat) (h : k < L.length) (ha : (L.take k).all p = true) (hp : p (L.getD k c00) = true) : (L.take (k + 1)).all p = true := by
  rw [show L.getD k c00 = L[k] by simp [h]] at hp
  exact all_take_succ p L k h ha hp
set_option maxRecDepth 20000 in
set_option maxHeartbeats 1000000 in
theorem ciFour_any (v : Value) (L : List Ci4) (w : World) (h : Cis w v L) :
    Calls Try.prog 83 #[v] w fun e w' => BoolRes w (fourB L) e w' := by
  obtain ⟨a, cap, rfl, hl, _⟩ := id h
  have H := hid h
  clear h
  by_cases h4 : L.length = 4
  · have HN := hid h4
    have hne : ((L.length : Int) != 4) = false := by simp [h4]
    have HE := hid (show fourB L = L.all ciB by unfold fourB; rw [decide_eq_true h4, Bool.true_and])
    clear h4
    go_enter Try.func83, Try.ntmps83
    go_wp2_with fail
    go_loopw [10] (fun i wr => ∃ k : Nat, k ≤ L.length ∧ i = .int .i64 k ∧ (L.take k).all ciB = true ∧ Later w wr) (fun i _ => L.length - (intOf i).toNat)
    case atStart => exact ⟨0, Nat.zero_le _, rfl, rfl, Later.refl _⟩
    case round =>
      obtain ⟨k, hk, rfl, hal, hL⟩ := hrel
      have HA := hid hal
      have HL := hid hL
      by_cases hlt : k < L.length
      · obtain ⟨g, rfl, c0, c1, c2, c3⟩ := (H.out.later hL).at k hlt
        have HST := hid (fun hp => all_take ciB L k hlt HA.out hp)
        have HFA := hid (fun (hp : ciB (L.getD k c00) = false) => show L.all ciB = false from all_false_at ciB L k hlt (by rw [show L.getD k c00 = L[k] by simp [hlt]] at hp; exact hp))
        obtain ⟨t, ht⟩ : ∃ t, L.getD k c00 = t := ⟨_, rfl⟩
        rw [ht] at c0 c1 c2 c3 HST HFA
        obtain ⟨p, q, r, s⟩ := t
        simp only at c0 c1 c2 c3
        have HLA := hid (HL.out.trans (Later.alloc wr (.cells #[.int .i64 p, .int .i64 q, .int .i64 r, .int .i64 s] 103)))
        clear ht hal hL
        cases hb : ciB (p, q, r, s)
        · have HF := hid (HFA.out hb)
          have HB := hid hb
          clear hb
          go_wp2_with fail
          generalize wr.alloc (.cells #[.int .i64 p, .int .i64 q, .int .i64 r, .int .i64 s] 103) = w1 at HLA ⊢
          refine (ciGood_as p q r s false _ HB.out).mono ?_
          rintro e w2 ⟨rfl, hL2⟩
          have HL2 := hid (HLA.out.trans hL2)
          clear hL2
          go_wp2_with fail
          go_ret
          exact ⟨ret_bool (by rw [HE.out, HF.out]), HL2.out⟩
        · have HS := hid (HST.out hb)
          have HB := hid hb
          clear hb
          go_wp2_with fail
          generalize wr.alloc (.cells #[.int .i64 p, .int .i64 q, .int .i64 r, .int .i64 s] 103) = w1 at HLA ⊢
          refine (ciGood_as p q r s true _ HB.out).mono ?_
          rintro e w2 ⟨rfl, hL2⟩
          have HL2 := hid (HLA.out.trans hL2)
          clear hL2
          go_wp2_with fail
          go_roundw
          case rel => exact ⟨k + 1, hlt, by go_num, HS.out, HL2.out⟩
          case measure => simp [intOf]; omega
      · have HT := hid (show L.all ciB = true by have := HA.out; rwa [List.take_of_length_le (by omega)] at this)
        go_wp2_with fail
        go_ret
        exact ⟨ret_bool (by rw [HE.out, HT.out]), HL.out⟩
  · have HE := hid (show fourB L = false by unfold fourB; rw [decide_eq_false h4]; rfl)
    have hne : ((L.length : Int) != 4) = true := by simp; omega
    clear h4
    go_enter Try.func83, Try.ntmps83
    go_wp2_with fail
    go_ret
    exact ⟨ret_bool HE.out.symm, Later.refl _⟩
theorem ciFour_as (v : Value) (L : List Ci4) (o : Bool) (w : World) (h : Cis w v L) (ho : fourB L = o) :
    Calls Try.prog 83 #[v] w fun e w' => BoolRes w o e w' := by
  subst ho; exact ciFour_any v L w h


theorem ciTw_comm (c d : Ci4) : ciTw c d = ciTw d c := by
  obtain ⟨a, b, x, y⟩ := c
  obtain ⟨p, q, r, s⟩ := d
  unfold ciTw
  simp only
  grind
def twP (L : List Ci4) (i j : Nat) : Bool := ciTw (L.getD i c00) (L.getD j c00) == -2
def confB (L : List Ci4) : Bool := fourB L && (List.range L.length).all fun i => (List.range i).all fun j => twP L i j
theorem fourB_len {L : List Ci4} (h : fourB L = true) : L.length = 4 := by
  unfold fourB at h; rw [Bool.and_eq_true] at h; exact of_decide_eq_true h.1
theorem fourB_all {L : List Ci4} (h : fourB L = true) : ∀ i, i < L.length → ciB (L.getD i c00) = true := by
  unfold fourB at h; rw [Bool.and_eq_true, List.all_eq_true] at h
  intro i hi
  exact h.2 _ (by rw [show L.getD i c00 = L[i] by simp [hi]]; exact List.getElem_mem hi)
theorem confB_true {L : List Ci4} (h4 : fourB L = true) (h : ∀ i j, j < i → i < L.length → twP L i j = true) : confB L = true := by
  unfold confB
  rw [h4, Bool.true_and, List.all_eq_true]
  intro i hi
  rw [List.all_eq_true]
  intro j hj
  exact h i j (List.mem_range.1 hj) (List.mem_range.1 hi)
theorem confB_false {L : List Ci4} (i j : Nat) (hj : j < i) (hi : i < L.length) (h : twP L i j = false) : confB L = false := by
  unfold confB
  rw [Bool.and_eq_false_iff]
  right
  rw [List.all_eq_false]
  refine ⟨i, List.mem_range.2 hi, ?_⟩
  rw [Bool.not_eq_true, List.all_eq_false]
  exact ⟨j, List.mem_range.2 hj, by rw [h]; simp⟩
theorem confB_no {L : List Ci4} (h4 : fourB L = false) : confB L = false := by unfold confB; rw [h4]; rfl
theorem confB_four {L : List Ci4} (h : confB L = true) : fourB L = true := by unfold confB at h; rw [Bool.and_eq_true] at h; exact h.1
theorem confB_tw {L : List Ci4} (h : confB L = true) (i j : Nat) (hj : j < i) (hi : i < L.length) : twP L i j = true := by
  unfold confB at h; rw [Bool.and_eq_true, List.all_eq_true] at h
  exact List.all_eq_true.1 (h.2 i (List.mem_range.2 hi)) j (List.mem_range.2 hj)

set_option maxRecDepth 20000 in
set_option maxHeartbeats 2000000 in
theorem ciConfig_any (v : Value) (L : List Ci4) (w : World) (h : Cis w v L) :
    Calls Try.prog 79 #[v] w fun e w' => BoolRes w (confB L) e w' := by
  obtain ⟨a, cap, rfl, hl, hcap, _⟩ := id h
  have H := hid h
  have HCAP := hid hcap
  clear h hcap
  cases h4 : fourB L
  · have HF := hid h4
    have HO := hid (confB_no h4)
    clear h4
    go_enter Try.func79, Try.ntmps79
    go_wp2_with fail
    refine (ciFour_as _ L false _ H.out HF.out).mono ?_
    rintro e w2 ⟨rfl, hL⟩
    have HL := hid hL
    clear hL
    go_wp2_with fail
    go_ret
    exact ⟨ret_bool HO.out.symm, HL.out⟩
  · have HF := hid h4
    have HN := hid (fourB_len h4)
    have HALL := hid (fourB_all h4)
    obtain ⟨o, ho⟩ : ∃ o, confB L = o := ⟨_, rfl⟩
    have HOT := hid (fun hh => ho.symm.trans (confB_true h4 hh))
    have HOF := hid (fun i j hj hi hh => ho.symm.trans (confB_false (L := L) i j hj hi hh))
    rw [ho]
    clear h4 ho
    go_enter Try.func79, Try.ntmps79
    go_wp2_with fail
    refine (ciFour_as _ L true _ H.out HF.out).mono ?_
    rintro e w2 ⟨rfl, hL⟩
    have HL := hid hL
    clear hL
    go_wp2_with fail
    go_loopw [12] (fun i wr => ∃ k : Nat, k ≤ L.length ∧ i = .int .i64 k ∧ (∀ i j, j < i → i < k → twP L i j = true) ∧ Later w wr) (fun i _ => L.length - (intOf i).toNat)
    case atStart => exact ⟨0, Nat.zero_le _, rfl, fun i j _ hi => absurd hi (Nat.not_lt_zero i), HL.out⟩
    case round =>
      clear HL
      obtain ⟨k, hk, rfl, hpre, hL⟩ := hrel
      have HP := hid hpre
      have HL := hid hL
      clear hpre
      by_cases hlt : k < L.length
      · obtain ⟨g, rfl, c0, c1, c2, c3⟩ := (H.out.later hL).at k hlt
        have HCk := hid (HALL.out k hlt)
        have hkc : k ≤ cap := by have := HCAP.out; omega
        have HTW := hid (fun j => show twP L k j = (ciTw (L.getD k c00) (L.getD j c00) == -2) from rfl)
        obtain ⟨t, ht⟩ : ∃ t, L.getD k c00 = t := ⟨_, rfl⟩
        rw [ht] at c0 c1 c2 c3 HCk HTW
        obtain ⟨p, q, r, s⟩ := t
        simp only at c0 c1 c2 c3
        have HLA := hid (HL.out.trans (Later.alloc wr (.cells #[.int .i64 p, .int .i64 q, .int .i64 r, .int .i64 s] 103)))
        have HBX := hid (CBox.new wr p q r s 103)
        obtain ⟨B, hB⟩ : ∃ B, wr.heap.size = B := ⟨_, rfl⟩
        clear ht hL
        go_wp2_with fail
        generalize wr.alloc (.cells #[.int .i64 p, .int .i64 q, .int .i64 r, .int .i64 s] 103) = wa at HLA HBX ⊢
        rw [hB] at HBX
        clear hB c0 c1 c2 c3 HL
        go_loopw [21] (fun i wi => ∃ m : Nat, m ≤ k ∧ i = .int .i64 m ∧ (∀ j, j < m → twP L k j = true) ∧ Later wa wi) (fun i _ => k - (intOf i).toNat)
        case atStart => exact ⟨0, Nat.zero_le _, rfl, fun j hj => absurd hj (Nat.not_lt_zero j), Later.refl _⟩
        case round =>
          obtain ⟨m, hm, rfl, hin, hLi⟩ := hrel
          have HIN := hid hin
          have HLI := hid hLi
          clear hin
          by_cases hmk : m < k
          · obtain ⟨g', e, d0, d1, d2, d3⟩ := (H.out.later (HLA.out.trans hLi)).at m (by omega)
            simp only [Option.some.injEq, Addr.mk.injEq, and_true] at e
            subst e
            have HCm := hid (HALL.out m (by omega))
            have HTm := hid (HTW.out m)
            have HFm := hid (fun hh => HOF.out k m hmk hlt hh)
            have HNx := hid (fun (hh : twP L k m = true) j (hj : j < m + 1) => show twP L k j = true from if e : j = m then by rw [e]; exact hh else HIN.out j (by omega))
            obtain ⟨u, hu⟩ : ∃ u, L.getD m c00 = u := ⟨_, rfl⟩
            rw [hu] at d0 d1 d2 d3 HCm HTm
            obtain ⟨p2, q2, r2, s2⟩ := u
            simp only at d0 d1 d2 d3
            have HBI := hid ((HBX.out.later hLi).later (Later.alloc wr (.cells #[.int .i64 p2, .int .i64 q2, .int .i64 r2, .int .i64 s2] 103)))
            have HLJ := hid (HLI.out.trans (Later.alloc wr (.cells #[.int .i64 p2, .int .i64 q2, .int .i64 r2, .int .i64 s2] 103)))
            have HBJ := hid (CBox.new wr p2 q2 r2 s2 103)
            clear hu hLi
            obtain ⟨b0, b1, b2, b3⟩ := HBI.out
            cases ht : twP L k m
            · have HF2 := hid (HFm.out ht)
              have hne : (ciTw (p, q, r, s) (p2, q2, r2, s2) != -2) = true := by rw [bne, ← HTm.out, ht]; rfl
              have HTT := hid (fun w0 => twiceS_any p q r s p2 q2 r2 s2 w0 (ciB_in HCk.out) (ciB_in HCm.out))
              obtain ⟨T, hT⟩ : ∃ T, ciTw (p, q, r, s) (p2, q2, r2, s2) = T := ⟨_, rfl⟩
              rw [hT] at hne HTT
              clear ht hT HNx HTm
              go_wp2_with fail
              generalize wr.alloc (.cells #[.int .i64 p2, .int .i64 q2, .int .i64 r2, .int .i64 s2] 103) = wb at HBI HLJ HBJ b0 b1 b2 b3 ⊢
              refine (HTT.out _).mono ?_
              rintro e w3 ⟨rfl, hL3⟩
              have HL3 := hid ((HLA.out.trans HLJ.out).trans hL3)
              clear hL3
              go_wp2_with fail
              go_ret
              exact ⟨ret_bool HF2.out.symm, HL3.out⟩
            · have HN2 := hid (HNx.out ht)
              have hne : (ciTw (p, q, r, s) (p2, q2, r2, s2) != -2) = false := by rw [bne, ← HTm.out, ht]; rfl
              have HTT := hid (fun w0 => twiceS_any p q r s p2 q2 r2 s2 w0 (ciB_in HCk.out) (ciB_in HCm.out))
              obtain ⟨T, hT⟩ : ∃ T, ciTw (p, q, r, s) (p2, q2, r2, s2) = T := ⟨_, rfl⟩
              rw [hT] at hne HTT
              clear ht hT HNx HTm HFm
              go_wp2_with fail
              generalize wr.alloc (.cells #[.int .i64 p2, .int .i64 q2, .int .i64 r2, .int .i64 s2] 103) = wb at HBI HLJ HBJ b0 b1 b2 b3 ⊢
              refine (HTT.out _).mono ?_
              rintro e w3 ⟨rfl, hL3⟩
              have HL3 := hid (HLJ.out.trans hL3)
              clear hL3
              go_wp2_with fail
              go_roundw
              case rel => exact ⟨m + 1, hmk, by go_num, HN2.out, HL3.out⟩
              case measure => simp [intOf]; omega
          · obtain rfl : m = k := by omega
            go_wp2_with fail
            go_roundw
            case rel => exact ⟨m + 1, hlt, by go_num, fun i j hj hi => if e : i = m then by subst e; exact HIN.out j hj else HP.out i j hj (by omega), HLA.out.trans HLI.out⟩
            case measure => simp [intOf]; omega
      · have HO := hid (HOT.out (fun i j hj hi => HP.out i j hj (by omega)))
        go_wp2_with fail
        go_ret
        exact ⟨ret_bool HO.out.symm, HL.out⟩


theorem all_atC {L : List Ci4} (h : L.all ciB = true) : ∀ i, i < L.length → ciB (L.getD i c00) = true := by
  rw [List.all_eq_true] at h
  intro i hi
  exact h _ (by rw [show L.getD i c00 = L[i] by simp [hi]]; exact List.getElem_mem hi)
/-- the pairs i < j of circles that touch, j less than m -/
def rowP (L : List Ci4) (i : Nat) : Nat → List (List Int)
  | 0 => []
  | m + 1 => rowP L i m ++ (if i < m ∧ twP L i m = true then [[(i : Int), (m : Int)]] else [])
def allP (L : List Ci4) : Nat → List (List Int)
  | 0 => []
  | k + 1 => allP L k ++ rowP L k L.length
theorem rowP_low (L : List Ci4) (i m : Nat) (h : m ≤ i + 1) : rowP L i m = [] := by
  induction m with
  | zero => rfl
  | succ m ih => unfold rowP; rw [ih (by omega), if_neg (by omega)]; rfl
theorem rowP_step (L : List Ci4) (i m : Nat) (h : i < m) : rowP L i (m + 1) = rowP L i m ++ (if twP L i m = true then [[(i : Int), (m : Int)]] else []) := by
  conv => lhs; unfold rowP
  simp [h]
theorem rowP_len (L : List Ci4) (i m : Nat) : (rowP L i m).length ≤ m := by
  induction m with
  | zero => simp [rowP]
  | succ m ih => unfold rowP; rw [List.length_append]; split <;> simp <;> omega
theorem allP_len (L : List Ci4) (k : Nat) : (allP L k).length ≤ k * L.length := by
  induction k with
  | zero => simp [allP]
  | succ k ih => unfold allP; rw [List.length_append, Nat.succ_mul]; have := rowP_len L k L.length; omega
def pairsAns (L : List Ci4) : Option (List (List Int)) := if L.length ≤ 40 ∧ L.all ciB = true then some (allP L L.length) else none
def CBoxT (w : World) (B : Nat) (a b x y : Int) : Prop := CBox w B a b x y ∧ ∃ cur, w.heap[B]? = some (.cells cur 103 (0, 0))
theorem CBoxT.new (w : World) (a b x y : Int) : CBoxT (w.alloc (.cells #[.int .i64 a, .int .i64 b, .int .i64 x, .int .i64 y] 103)) w.heap.size a b x y :=
  ⟨CBox.new w a b x y _, _, heap_alloc_new w _⟩
theorem CBoxT.later {w w' : World} {B : Nat} {a b x y : Int} (h : CBoxT w B a b x y) (k : Later w w') : CBoxT w' B a b x y := by
  obtain ⟨h1, cur, h2⟩ := h
  refine ⟨h1.later k, cur, ?_⟩
  rw [k.block B (World.block_lt_of_cell? w ⟨B, 0, none⟩ h1.1)]
  exact h2
theorem CBoxT.grown {w w1 : World} {B : Nat} {a b x y : Int} (h : CBoxT w B a b x y) {lo' n : Nat} {v : Value} {us : List Value} (ho : w.ownsRow lo' 24 1 v n us) (hg : w.grownBy w1 v.ownBlock) : CBoxT w1 B a b x y := by
  obtain ⟨h1, cur, h2⟩ := h
  have hb : w1.heap[B]? = w.heap[B]? := hg.block B (World.block_lt_of_cell? w ⟨B, 0, none⟩ h1.1) fun e => by
    obtain ⟨c2, hc2⟩ := ownsRow_block ho e.symm
    rw [h2] at hc2
    simp at hc2
  exact ⟨⟨cell_keep h1.1 hb, cell_keep h1.2.1 hb, cell_keep h1.2.2.1 hb, cell_keep h1.2.2.2 hb⟩, cur, hb.trans h2⟩
theorem OwnRows.none_ (lo hi : Nat) (w : World) : OwnRows lo hi w (.slice none 0 0) [] :=
  ⟨[], rfl, World.ownsRow_nil _ _ _ _, fun b hb => by simp [Value.ownBlock] at hb, fun i hi => absurd hi (Nat.not_lt_zero i), fun i j _ hj => absurd hj (Nat.not_lt_zero j)⟩
theorem OwnRows.parts {lo hi : Nat} {w : World} {v : Value} {L : List (List Int)} (h : OwnRows lo hi w v L) : ∃ us : List Value, us.length = L.length ∧ w.ownsRow lo 24 1 v us.length us ∧ (∀ k, v.ownBlock = some k → k < hi) ∧
    (∀ i, i < L.length → OwnInts lo hi w (us.getD i undef) (L.getD i [])) ∧
    ∀ i j, i < j → j < L.length → ∀ k, (us.getD i undef).ownBlock = some k → (us.getD j undef).ownBlock ≠ some k := h
theorem OwnInts.lit2 (w : World) (a b : Int) : OwnInts w.heap.size (w.alloc (.cells #[.int .i64 a, .int .i64 b] 3)).heap.size (w.alloc (.cells #[.int .i64 a, .int .i64 b] 3)) (.slice (some ⟨w.heap.size, 0, none⟩) 2 2) [a, b] := by
  have h := World.ownsRow_lit (e := 3) (size := 1) w #[.int .i64 a, .int .i64 b] 2 (Nat.le_refl _) (by unfold maxLen; omega) (by simp)
  refine ⟨h, fun k hk => ?_⟩
  simp [Value.ownBlock] at hk ⊢
  omega

set_option maxRecDepth 20000 in
set_option maxHeartbeats 4000000 in
theorem pairsP_any (v : Value) (L : List Ci4) (w : World) (h : Cis w v L) :
    Calls Try.prog 82 #[v] w fun e w' => RowsAns w (pairsAns L) e w' := by
  obtain ⟨a, cap, rfl, hl, hcap, _⟩ := id h
  have H := hid h
  clear h
  by_cases h40 : L.length ≤ 40
  · have hgt : ¬ (40 : Int) < (L.length : Int) := by omega
    cases hall : L.all ciB
    · have HF := hid hall
      have HA := hid (show pairsAns L = none by unfold pairsAns; rw [hall]; simp)
      clear hall
      go_enter Try.func82, Try.ntmps82
      go_wp2_with fail
      refine (areCircles_as _ L false _ H.out HF.out).mono ?_
      rintro e w2 ⟨rfl, hL⟩
      have HL := hid hL
      clear hL
      go_wp2_with fail
      go_ret2
      exact ⟨_, by rw [HA.out]; rfl, by rw [HA.out]; exact OwnRows.none_ _ _ _, HL.out⟩
    · have HF := hid hall
      have HA := hid (show pairsAns L = some (allP L L.length) by unfold pairsAns; rw [hall, if_pos ⟨h40, rfl⟩])
      have HALL := hid (all_atC hall)
      have HLEN := hid h40
      clear hall
      go_enter Try.func82, Try.ntmps82
      go_wp2_with fail
      refine (areCircles_as _ L true _ H.out HF.out).mono ?_
      rintro e w2 ⟨rfl, hL⟩
      have HL := hid hL
      clear hL
      go_wp2_with fail
      go_loopw [4, 18] (fun o i wr => ∃ k : Nat, k ≤ L.length ∧ i = .int .i64 k ∧ OwnRows w.heap.size wr.heap.size wr o (allP L k) ∧ Later w wr) (fun _ i _ => L.length - (intOf i).toNat)
      case atStart => exact ⟨0, Nat.zero_le _, rfl, OwnRows.none_ _ _ _, HL.out⟩
      case round =>
        clear HL
        obtain ⟨k, hk, rfl, hO, hL⟩ := hrel
        obtain ⟨o1, o2, rfl, _⟩ := hO.shape
        have HO := hid hO
        have HL := hid hL
        have hkl := allP_len L k
        by_cases hlt : k < L.length
        · obtain ⟨g, rfl, c0, c1, c2, c3⟩ := (H.out.later hL).at k hlt
          have HCk := hid (HALL.out k hlt)
          have HTW := hid (fun j => show twP L k j = (ciTw (L.getD k c00) (L.getD j c00) == -2) from rfl)
          obtain ⟨t, ht⟩ : ∃ t, L.getD k c00 = t := ⟨_, rfl⟩
          rw [ht] at c0 c1 c2 c3 HCk HTW
          obtain ⟨p, q, r, s⟩ := t
          simp only at c0 c1 c2 c3
          have hA := Later.alloc wr (.cells #[.int .i64 p, .int .i64 q, .int .i64 r, .int .i64 s] 103)
          have HLA := hid (HL.out.trans hA)
          have HOA := hid ((HO.out.later hA).wide (Nat.le_refl _) hA.size)
          have HBX := hid (CBoxT.new wr p q r s)
          obtain ⟨B, hB⟩ : ∃ B, wr.heap.size = B := ⟨_, rfl⟩
          clear ht hL hO hA HO HL
          go_wp2_with fail
          generalize wr.alloc (.cells #[.int .i64 p, .int .i64 q, .int .i64 r, .int .i64 s] 103) = wa at HLA HBX HOA ⊢
          rw [hB] at HBX
          clear hB c0 c1 c2 c3
          have HOA2 := hid (show OwnRows w.heap.size wa.heap.size wa (.slice o1 (allP L k).length o2) (allP L k ++ rowP L k (k + 1)) by rw [rowP_low L k (k + 1) (Nat.le_refl _), List.append_nil]; exact HOA.out)
          go_loopw [4, 7] (fun o i wr => ∃ m : Nat, k + 1 ≤ m ∧ m ≤ L.length ∧ i = .int .i64 m ∧ OwnRows w.heap.size wr.heap.size wr o (allP L k ++ rowP L k m) ∧ CBoxT wr B p q r s ∧ Later w wr) (fun _ i _ => L.length - (intOf i).toNat)
          case atStart => exact ⟨k + 1, Nat.le_refl _, hlt, by go_num, HOA2.out, HBX.out, HLA.out⟩
          case round =>
            clear HOA HOA2 HBX HLA
            obtain ⟨m, hmk, hm, rfl, hO, hBX, hLi⟩ := hrel
            have HBX := hid hBX
            clear hBX
            obtain ⟨M, hM⟩ : ∃ M, allP L k ++ rowP L k m = M := ⟨_, rfl⟩
            have HM := hid hM
            have hML : M.length ≤ 40 * 40 + 40 := by
              rw [← hM, List.length_append]
              have h1 := rowP_len L k m
              have h3 : k * L.length ≤ 40 * 40 := Nat.mul_le_mul (by omega) HLEN.out
              have h4 := HLEN.out
              omega
            rw [hM] at hO
            obtain ⟨o3, o4, rfl, _⟩ := hO.shape
            have HO := hid hO
            have HLI := hid hLi
            clear hO hM
            by_cases hml : m < L.length
            · obtain ⟨g', e, d0, d1, d2, d3⟩ := (H.out.later hLi).at m hml
              simp only [Option.some.injEq, Addr.mk.injEq, and_true] at e
              subst e
              obtain ⟨b0, b1, b2, b3⟩ := HBX.out.1
              have HCm := hid (HALL.out m hml)
              have HTm := hid (HTW.out m)
              have hmi : (m : Int) < (L.length : Int) := by omega
              have hki : (k : Int) < (m : Int) := by omega
              obtain ⟨u, hu⟩ : ∃ u, L.getD m c00 = u := ⟨_, rfl⟩
              rw [hu] at d0 d1 d2 d3 HCm HTm
              obtain ⟨p2, q2, r2, s2⟩ := u
              simp only at d0 d1 d2 d3
              have HTT := hid (fun w0 => twiceP_any p q r s p2 q2 r2 s2 w0 (ciB_in HCk.out) (ciB_in HCm.out))
              have hR := rowP_step L k m (by omega)
              obtain ⟨T, hT⟩ : ∃ T, ciTw (p, q, r, s) (p2, q2, r2, s2) = T := ⟨_, rfl⟩
              rw [hT] at HTT HTm
              clear hu hLi hT
              cases ht : twP L k m
              · have hne : (T == -2) = false := by rw [← HTm.out, ht]
                have HR := hid (show rowP L k (m + 1) = rowP L k m by rw [hR, ht]; simp)
                clear ht hR HTm
                go_wp2_with fail
                have kb0 : ∀ u : LaterH wr, u.now.cell? ⟨B, 0, none⟩ = some (.int .i64 p) := fun u => u.later.cell b0
                have kb1 : ∀ u : LaterH wr, u.now.cell? ⟨B, 1, none⟩ = some (.int .i64 q) := fun u => u.later.cell b1
                have kb2 : ∀ u : LaterH wr, u.now.cell? ⟨B, 2, none⟩ = some (.int .i64 r) := fun u => u.later.cell b2
                have kb3 : ∀ u : LaterH wr, u.now.cell? ⟨B, 3, none⟩ = some (.int .i64 s) := fun u => u.later.cell b3
                have kd0 : ∀ u : LaterH wr, u.now.cell? ⟨g, m * 4, none⟩ = some (.int .i64 p2) := fun u => u.later.cell d0
                have kd1 : ∀ u : LaterH wr, u.now.cell? ⟨g, m * 4 + 1, none⟩ = some (.int .i64 q2) := fun u => u.later.cell d1
                have kd2 : ∀ u : LaterH wr, u.now.cell? ⟨g, m * 4 + 2, none⟩ = some (.int .i64 r2) := fun u => u.later.cell d2
                have kd3 : ∀ u : LaterH wr, u.now.cell? ⟨g, m * 4 + 3, none⟩ = some (.int .i64 s2) := fun u => u.later.cell d3
                clear b0 b1 b2 b3 d0 d1 d2 d3
                refine wp_region_quiet_laterH (by kernel_rfl) (by kernel_rfl) ?_
                repeat
                  with_reducible refine wpQuiet_step (fun K hK => ?_)
                  go_simp
                  first
                    | (with_reducible refine hK _ ?_; clear hK K)
                    | (apply Exists.intro
                       refine ⟨fun _ => ?_, hK _ ?_⟩
                       (go_at_call 123; with_reducible exact Calls.laterH _ (HTT.out _))
                       clear hK K)
                with_reducible refine wpQuiet_nil ?_
                intro w2 hw'
                obtain ⟨⟨wq, hLq⟩, hw''⟩ := hw'
                subst hw''
                have HL2 := hid (HLI.out.trans hLq)
                have HO2 := hid (HO.out.later hLq)
                have HB2 := hid (HBX.out.later hLq)
                have HS2 := hid hLq.size
                clear hLq kb0 kb1 kb2 kb3 kd0 kd1 kd2 kd3
                go_wp2_with fail
                go_roundw
                case rel => exact ⟨m + 1, by omega, hml, by go_num, by rw [HR.out, HM.out]; exact HO2.out.wide (Nat.le_refl _) HS2.out, HB2.out, HL2.out⟩
                case measure => simp [intOf]; omega
              · have hne : (T == -2) = true := by rw [← HTm.out, ht]
                have HR := hid (show rowP L k (m + 1) = rowP L k m ++ [[(k : Int), (m : Int)]] by rw [hR, ht]; simp)
                clear ht hR HTm
                go_wp2_with fail
                have kb0 : ∀ u : LaterH wr, u.now.cell? ⟨B, 0, none⟩ = some (.int .i64 p) := fun u => u.later.cell b0
                have kb1 : ∀ u : LaterH wr, u.now.cell? ⟨B, 1, none⟩ = some (.int .i64 q) := fun u => u.later.cell b1
                have kb2 : ∀ u : LaterH wr, u.now.cell? ⟨B, 2, none⟩ = some (.int .i64 r) := fun u => u.later.cell b2
                have kb3 : ∀ u : LaterH wr, u.now.cell? ⟨B, 3, none⟩ = some (.int .i64 s) := fun u => u.later.cell b3
                have kd0 : ∀ u : LaterH wr, u.now.cell? ⟨g, m * 4, none⟩ = some (.int .i64 p2) := fun u => u.later.cell d0
                have kd1 : ∀ u : LaterH wr, u.now.cell? ⟨g, m * 4 + 1, none⟩ = some (.int .i64 q2) := fun u => u.later.cell d1
                have kd2 : ∀ u : LaterH wr, u.now.cell? ⟨g, m * 4 + 2, none⟩ = some (.int .i64 r2) := fun u => u.later.cell d2
                have kd3 : ∀ u : LaterH wr, u.now.cell? ⟨g, m * 4 + 3, none⟩ = some (.int .i64 s2) := fun u => u.later.cell d3
                clear b0 b1 b2 b3 d0 d1 d2 d3
                refine wp_region_quiet_laterH (by kernel_rfl) (by kernel_rfl) ?_
                repeat
                  with_reducible refine wpQuiet_step (fun K hK => ?_)
                  go_simp
                  first
                    | (with_reducible refine hK _ ?_; clear hK K)
                    | (apply Exists.intro
                       refine ⟨fun _ => ?_, hK _ ?_⟩
                       (go_at_call 123; with_reducible exact Calls.laterH _ (HTT.out _))
                       clear hK K)
                with_reducible refine wpQuiet_nil ?_
                intro w2 hw'
                obtain ⟨⟨wq, hLq⟩, hw''⟩ := hw'
                subst hw''
                have HL2 := hid (HLI.out.trans hLq)
                have HO2 := hid (HO.out.later hLq)
                have HB2 := hid (HBX.out.later hLq)
                have HS2 := hid hLq.size
                clear hLq kb0 kb1 kb2 kb3 kd0 kd1 kd2 kd3
                obtain ⟨us, hul, hus, hub, hin, hdis⟩ := HO2.out.parts
                have hA := Later.alloc w2 (.cells #[.int .i64 (k : Int), .int .i64 (m : Int)] 3)
                have HI2 := hid (OwnInts.lit2 w2 (k : Int) (m : Int))
                have HUS := hid (ownsRow_keep hus (fun b hb => hA.block b (hus.lt b hb).2))
                have HIN := hid (fun i hi => (hin i hi).later hA)
                have HDS := hid hdis
                have HL3 := hid (HL2.out.trans hA)
                have HS3 := hid (show wr.heap.size ≤ w2.heap.size from HS2.out)
                have HWS := hid (show w.heap.size ≤ wr.heap.size from HLI.out.size)
                have HB3 := hid (HB2.out.later hA)
                have hul2 : us.length ≤ 5000 := by omega
                have hrow : M.length = us.length := hul.symm
                clear hus hin hdis hA HO2
                obtain ⟨i0, hi, hz0, hz1, hz2⟩ := info_parts Try.infoInts
                have hown4 := hid (HUS.out.alloc (.cells #[.slice (some ⟨w2.heap.size, 0, none⟩) 2 2] 24))
                obtain ⟨D, hD⟩ : ∃ D, w2.heap.size = D := ⟨_, rfl⟩
                have hsz3 : (w2.alloc (.cells #[.int .i64 (k : Int), .int .i64 (m : Int)] 3)).heap.size = D + 1 := by simp [hD]
                rw [hD] at HI2 HS3 hown4
                rw [hrow] at hown4 ⊢
                have HUL := hid hul
                clear hul hrow hML
                go_wp2_with (at_builtin; refine wpList_append_lies _ (by rfl) _ _ _ (by rfl) w.heap.size 24 i0 (.slice none 0 0) 1 24 Try.underlying27 hi hz0 hz1 hz2 rfl (by omega) _ us.length us (by rfl) (by exact hown4.out) ⟨D + 1, 0, none⟩ 1 1 [.slice (some ⟨D, 0, none⟩) 2 2] (by rfl) (by rfl) (World.news_of_block (cs := #[.slice (some ⟨D, 0, none⟩) 2 2]) (t := 24) (fr := (0, 0)) (by rw [← hsz3]; exact heap_alloc_new _ _)) (by simp [Value.oneCell']) (by omega) (by unfold maxLen; omega) (by omega) (by have := HWS.out; have := HS3.out; simp [hD]; omega) (D + 1 + 1) (by simp [hD]) ?_)
                intro g5 cap1 w5 hown5 hgrow hat hglt
                have hA2 := Later.alloc (w2.alloc (.cells #[.int .i64 (k : Int), .int .i64 (m : Int)] 3)) (.cells #[.slice (some ⟨D, 0, none⟩) 2 2] 24)
                have HP := hid (OwnRows.pushed HUL.out (by exact hown4.out) (fun i hi => ((HIN.out i hi).later hA2)) HDS.out (((HI2.out.later hA2)).wide (by exact HS3.out) (by simp)) (by exact HWS.out) (by exact hown5) hgrow)
                have HL5 := hid (show Later w w5 from (HL3.out.trans hA2).grown hgrow (by have := HL2.out.size; simp [hD]; omega) (fun b hb => (hown4.out.lt b hb).1))
                have HB5 := hid ((HB3.out.later hA2).grown hown4.out hgrow)
                clear hown5 hgrow hat hglt hA2
                go_wp2_with fail
                go_roundw
                case rel => exact ⟨m + 1, by omega, hml, by go_num, by rw [HR.out, ← List.append_assoc, HM.out]; simpa using HP.out, HB5.out, HL5.out⟩
                case measure => simp [intOf]; omega
            · obtain rfl : m = L.length := by omega
              have HLW := HLI
              go_wp2_with fail
              go_roundw
              case rel => exact ⟨k + 1, hlt, by go_num, by rw [show allP L (k + 1) = allP L k ++ rowP L k L.length from rfl, HM.out]; exact HO.out, HLW.out⟩
              case measure => simp [intOf]; omega
        · obtain rfl : k = L.length := by omega
          go_wp2_with fail
          go_ret2
          exact ⟨_, by rw [HA.out]; rfl, by rw [HA.out]; exact HO.out, HL.out⟩
  · have hgt : (40 : Int) < (L.length : Int) := by omega
    have HA := hid (show pairsAns L = none by unfold pairsAns; rw [if_neg]; rintro ⟨h, _⟩; exact h40 h)
    go_enter Try.func82, Try.ntmps82
    go_wp2_with fail
    go_ret2
    exact ⟨_, by rw [HA.out]; rfl, by rw [HA.out]; exact OwnRows.none_ _ _ _, Later.refl _⟩


theorem off_two (Z : List (List Int)) (h : ∀ i, i < Z.length → (Z.getD i []).length ≤ 2) : off Z Z.length ≤ 2 * Z.length := by
  have := off_bound Z 2 Z.length h (Nat.le_refl _)
  omega
theorem rowP_two (L : List Ci4) (i m : Nat) : ∀ z ∈ rowP L i m, z.length ≤ 2 := by
  induction m with
  | zero => simp [rowP]
  | succ m ih =>
    unfold rowP
    intro z hz
    rw [List.mem_append] at hz
    rcases hz with hz | hz
    · exact ih z hz
    · split at hz
      · simp at hz; subst hz; simp
      · simp at hz
theorem allP_two (L : List Ci4) (k : Nat) : ∀ z ∈ allP L k, z.length ≤ 2 := by
  induction k with
  | zero => simp [allP]
  | succ k ih =>
    unfold allP
    intro z hz
    rw [List.mem_append] at hz
    rcases hz with hz | hz
    · exact ih z hz
    · exact rowP_two L k _ z hz
theorem pairsAns_off (L : List Ci4) : off ((pairsAns L).getD []) ((pairsAns L).getD []).length ≤ 1000000000000 := by
  unfold pairsAns
  split
  · rename_i h
    have h1 := off_two (allP L L.length) (fun i hi => allP_two L L.length _ (by rw [getD_row _ i hi]; exact List.getElem_mem hi))
    have h2 := allP_len L L.length
    have h3 : L.length * L.length ≤ 40 * 40 := Nat.mul_le_mul h.1 h.1
    simp only [Option.getD_some]
    omega
  · simp [off]
theorem twP_comm (L : List Ci4) (i j : Nat) : twP L i j = twP L j i := by unfold twP; rw [ciTw_comm]
theorem conf_six {L : List Ci4} (h : fourB L = true) : (((allP L L.length).length : Int) == 6) = confB L := by
  have h4 := fourB_len h
  have e : confB L = ((List.range 4).all fun i => (List.range i).all fun j => twP L i j) := by unfold confB; rw [h, h4, Bool.true_and]
  rw [e, h4]
  have k1 := twP_comm L 0 1
  have k2 := twP_comm L 0 2
  have k3 := twP_comm L 0 3
  have k4 := twP_comm L 1 2
  have k5 := twP_comm L 1 3
  have k6 := twP_comm L 2 3
  simp only [allP, rowP, h4, List.length_append, List.length_nil]
  rw [k1, k2, k3, k4, k5, k6]
  simp only [show (List.range 4) = [0, 1, 2, 3] by decide, show (List.range 3) = [0, 1, 2] by decide, show (List.range 2) = [0, 1] by decide, show (List.range 1) = [0] by decide, show (List.range 0) = [] by decide, List.all_cons, List.all_nil, Bool.and_true]
  cases twP L 1 0 <;> cases twP L 2 0 <;> cases twP L 3 0 <;> cases twP L 2 1 <;> cases twP L 3 1 <;> cases twP L 3 2 <;> simp
def confAns (L : List Ci4) : Option Bool := if fourB L = true then some (confB L) else none

theorem ciConfig_as (v : Value) (L : List Ci4) (o : Bool) (w : World) (h : Cis w v L) (ho : confB L = o) :
    Calls Try.prog 79 #[v] w fun e w' => BoolRes w o e w' := by
  subst ho; exact ciConfig_any v L w h
set_option maxRecDepth 20000 in
theorem isConfigS_any (v : Value) (L : List Ci4) (w : World) (h : Cis w v L) :
    Calls Try.prog 30 #[v] w fun e w' => BoolAns w (confAns L) e w' := by
  obtain ⟨a, cap, rfl, _⟩ := id h
  have H := hid h
  clear h
  cases h4 : fourB L
  · have HF := hid h4
    have HA := hid (show confAns L = none by unfold confAns; rw [h4]; simp)
    clear h4
    go_enter Try.func30, Try.ntmps30
    go_wp2_with fail
    refine (ciFour_as _ L false _ H.out HF.out).mono ?_
    rintro e w2 ⟨rfl, hL⟩
    have HL := hid hL
    clear hL
    go_wp2_with fail
    go_ret2
    exact ⟨by rw [HA.out]; rfl, HL.out⟩
  · have HF := hid h4
    have HA := hid (show confAns L = some (confB L) by unfold confAns; rw [h4]; simp)
    clear h4
    go_enter Try.func30, Try.ntmps30
    go_wp2_with fail
    refine (ciFour_as _ L true _ H.out HF.out).mono ?_
    rintro e w2 ⟨rfl, hL⟩
    have HL := hid hL
    have H2 := hid (H.out.later hL)
    clear hL
    go_wp2_with fail
    refine (ciConfig_any _ L _ H2.out).mono ?_
    rintro e w3 ⟨rfl, hL⟩
    have HL3 := hid (HL.out.trans hL)
    clear hL
    go_wp2_with fail
    go_ret2
    exact ⟨by rw [HA.out]; rfl, HL3.out⟩
set_option maxRecDepth 20000 in
theorem isConfigP_any (v : Value) (L : List Ci4) (w : World) (h : Cis w v L) :
    Calls Try.prog 29 #[v] w fun e w' => BoolAns w (confAns L) e w' := by
  obtain ⟨a, cap, rfl, _⟩ := id h
  have H := hid h
  clear h
  have HP := hid (fun w0 (h0 : Cis w0 (.slice a L.length cap) L) => pairsP_any _ L w0 h0)
  unfold RowsAns at HP
  cases hp : (pairsAns L).isSome
  · have HA := hid (show confAns L = none by
      unfold confAns
      rw [if_neg]
      intro hf
      unfold pairsAns at hp
      rw [if_pos] at hp
      · cases hp
      · have h4 := fourB_len hf
        refine ⟨by omega, ?_⟩
        unfold fourB at hf
        rw [Bool.and_eq_true] at hf
        exact hf.2)
    rw [hp] at HP
    clear hp
    go_enter Try.func29, Try.ntmps29
    go_wp2_with fail
    refine (HP.out _ H.out).mono ?_
    rintro e w2 ⟨v2, rfl, hO, hL⟩
    obtain ⟨o1, o2, rfl, _⟩ := hO.shape
    have HL := hid hL
    clear hL hO
    go_wp2_with fail
    go_ret2
    exact ⟨by rw [HA.out]; rfl, HL.out⟩
  · rw [hp] at HP
    have hok : L.length ≤ 40 ∧ L.all ciB = true := by
      unfold pairsAns at hp
      split at hp
      · assumption
      · cases hp
    have HR := hid (show (pairsAns L).getD [] = allP L L.length by unfold pairsAns; rw [if_pos hok]; rfl)
    rw [HR.out] at HP
    by_cases h4 : L.length = 4
    · have hf : fourB L = true := by unfold fourB; rw [decide_eq_true h4, hok.2]; rfl
      have HA := hid (show confAns L = some (((allP L L.length).length : Int) == 6) by unfold confAns; rw [if_pos hf, conf_six hf])
      have hne : ((L.length : Int) != 4) = false := by simp [h4]
      obtain ⟨Z, hZ⟩ : ∃ Z, allP L L.length = Z := ⟨_, rfl⟩
      rw [hZ] at HP HA
      clear hp hok h4 hf hZ HR
      go_enter Try.func29, Try.ntmps29
      go_wp2_with fail
      refine (HP.out _ H.out).mono ?_
      rintro e w2 ⟨v2, rfl, hO, hL⟩
      obtain ⟨o1, o2, rfl, _⟩ := hO.shape
      have HL := hid hL
      clear hL hO
      go_wp2_with fail
      go_ret2
      exact ⟨by rw [HA.out]; rfl, HL.out⟩
    · have HA := hid (show confAns L = none by unfold confAns fourB; rw [decide_eq_false h4]; simp)
      have hne : ((L.length : Int) != 4) = true := by simp; omega
      clear hp hok h4
      go_enter Try.func29, Try.ntmps29
      go_wp2_with fail
      refine (HP.out _ H.out).mono ?_
      rintro e w2 ⟨v2, rfl, hO, hL⟩
      obtain ⟨o1, o2, rfl, _⟩ := hO.shape
      have HL := hid hL
      clear hL hO
      go_wp2_with fail
      go_ret2
      exact ⟨by rw [HA.out]; rfl, HL.out⟩


def curvL (L : List Ci4) : List Int := L.map fun c => c.2.1
def curvAns (L : List Ci4) : Option (List Int) := if confB L = true then some (curvL L) else none
theorem curvAns_len (L : List Ci4) : ((curvAns L).getD []).length ≤ 1000000000000 := by
  unfold curvAns
  split
  · rename_i h
    have := fourB_len (confB_four h)
    simp [curvL, this]
  · simp
theorem OwnInts.nothingC (lo hi : Nat) (w : World) : OwnInts lo hi w (.slice none 0 0) [] := ⟨World.ownsRow_nil _ _ _ _, fun b hb => by simp [Value.ownBlock] at hb⟩
theorem OwnInts.pushedC {lo : Nat} {w1 : World} {v' : Value} {zs : List Int} {x : Int} (ho1 : w1.ownsRow lo 3 1 v' (zs.length + 1) (zs.map (Value.int .i64) ++ [.int .i64 x])) : OwnInts lo w1.heap.size w1 v' (zs ++ [x]) :=
  ⟨by simpa using ho1, fun k hk => (ho1.lt k hk).2⟩
theorem curv_take (L : List Ci4) (k : Nat) (h : k < L.length) : curvL (L.take (k + 1)) = curvL (L.take k) ++ [(L.getD k c00).2.1] := by
  unfold curvL
  rw [List.take_succ_eq_append_getElem h, List.map_append, show L.getD k c00 = L[k] by simp [h]]
  rfl
set_option maxRecDepth 20000 in
set_option maxHeartbeats 2000000 in
theorem ciCurvatures_any (v : Value) (L : List Ci4) (w : World) (hb : L.length ≤ 1000) (h : Cis w v L) :
    Calls Try.prog 86 #[v] w fun e w' => MadeInts w (curvL L) e w' := by
  obtain ⟨a, cap, rfl, hl, _⟩ := id h
  have H := hid h
  clear h
  go_enter Try.func86, Try.ntmps86
  go_wp2_with fail
  go_loopw [3, 8] (fun o i wr => ∃ k : Nat, k ≤ L.length ∧ i = .int .i64 k ∧ OwnInts w.heap.size wr.heap.size wr o (curvL (L.take k)) ∧ Later w wr) (fun _ i _ => L.length - (intOf i).toNat)
  case atStart => exact ⟨0, Nat.zero_le _, rfl, OwnInts.nothingC _ _ _, Later.refl _⟩
  case round =>
    obtain ⟨k, hk, rfl, hO, hL⟩ := hrel
    obtain ⟨o1, o2, rfl, _⟩ := hO.shape
    have HO := hid hO
    have HL := hid hL
    by_cases hlt : k < L.length
    · obtain ⟨g, rfl, c0, c1, c2, c3⟩ := (H.out.later hL).at k hlt
      have HS := hid (curv_take L k hlt)
      have hFl : (curvL (L.take k)).length ≤ 1000 := by simp [curvL]; omega
      obtain ⟨F, hF⟩ : ∃ F, curvL (L.take k) = F := ⟨_, rfl⟩
      obtain ⟨t, ht⟩ : ∃ t, L.getD k c00 = t := ⟨_, rfl⟩
      rw [ht] at c0 c1 c2 c3 HS
      rw [hF] at HO HS hFl ⊢
      obtain ⟨p, q, r, s⟩ := t
      simp only at c0 c1 c2 c3 HS
      have hA := Later.alloc wr (.cells #[.int .i64 p, .int .i64 q, .int .i64 r, .int .i64 s] 103)
      have hA2 := Later.alloc (wr.alloc (.cells #[.int .i64 p, .int .i64 q, .int .i64 r, .int .i64 s] 103)) (.cells #[.int .i64 q] 3)
      have HOA := hid ((HO.out.later hA).later hA2)
      have HLA := hid ((HL.out.trans hA).trans hA2)
      have HWS := hid (show w.heap.size ≤ wr.heap.size from hL.size)
      obtain ⟨i0, hi, hz0, hz1, hz2⟩ := info_parts Try.infoInt
      have hsz3 : (wr.alloc (.cells #[.int .i64 p, .int .i64 q, .int .i64 r, .int .i64 s] 103)).heap.size = wr.heap.size + 1 := by simp
      clear ht hF hL hO hA hA2
      go_wp2_with (at_builtin; refine wpList_append_lies _ (by rfl) _ _ _ (by rfl) w.heap.size 3 i0 (.int .i64 0) 1 8 Try.underlying24 hi hz0 hz1 hz2 rfl (by omega) _ F.length (F.map (Value.int .i64)) (by rfl) (by exact HOA.out.1) ⟨wr.heap.size + 1, 0, none⟩ 1 1 [.int .i64 q] (by rfl) (by rfl) (World.news_of_block (cs := #[.int .i64 q]) (t := 3) (fr := (0, 0)) (by rw [← hsz3]; exact heap_alloc_new _ _)) (by simp [Value.oneCell']) (by omega) (by unfold maxLen; omega) (by omega) (by have := HWS.out; simp; omega) (wr.heap.size + 1 + 1) (by simp) ?_)
      intro g5 cap1 w5 hown5 hgrow hat hglt
      have HP := hid (OwnInts.pushedC hown5)
      have HL5 := hid (show Later w w5 from HLA.out.grown hgrow (by have := HWS.out; simp; omega) (fun b hb => (HOA.out.1.lt b hb).1))
      clear hown5 hgrow hat hglt
      go_wp2_with fail
      go_roundw
      case rel => exact ⟨k + 1, hlt, by go_num, by rw [HS.out]; simpa using HP.out, HL5.out⟩
      case measure => simp [intOf]; omega
    · obtain rfl : k = L.length := by omega
      have HE := hid (show curvL (L.take L.length) = curvL L by rw [List.take_length])
      go_wp2_with fail
      go_ret
      exact ⟨_, rfl, by rw [← HE.out]; exact HO.out, HL.out⟩
set_option maxRecDepth 20000 in
theorem curvS_any (v : Value) (L : List Ci4) (w : World) (h : Cis w v L) :
    Calls Try.prog 33 #[v] w fun e w' => IntsAns w (curvAns L) e w' := by
  obtain ⟨a, cap, rfl, _⟩ := id h
  have H := hid h
  clear h
  cases h4 : confB L
  · have HF := hid h4
    have HA := hid (show curvAns L = none by unfold curvAns; rw [h4]; simp)
    clear h4
    go_enter Try.func33, Try.ntmps33
    go_wp2_with fail
    refine (ciConfig_as _ L false _ H.out HF.out).mono ?_
    rintro e w2 ⟨rfl, hL⟩
    have HL := hid hL
    clear hL
    go_wp2_with fail
    go_ret2
    exact ⟨_, by rw [HA.out]; rfl, by rw [HA.out]; exact OwnInts.nothingC _ _ _, HL.out⟩
  · have HF := hid h4
    have HA := hid (show curvAns L = some (curvL L) by unfold curvAns; rw [h4]; simp)
    have HN := hid (fourB_len (confB_four h4))
    clear h4
    go_enter Try.func33, Try.ntmps33
    go_wp2_with fail
    refine (ciConfig_as _ L true _ H.out HF.out).mono ?_
    rintro e w2 ⟨rfl, hL⟩
    have HL := hid hL
    have H2 := hid (H.out.later hL)
    clear hL
    go_wp2_with fail
    refine (ciCurvatures_any _ L _ (by have := HN.out; omega) H2.out).mono ?_
    rintro e w3 ⟨v3, rfl, hO, hL⟩
    have HL3 := hid (HL.out.trans hL)
    have HO := hid hO
    clear hL hO
    go_wp2_with fail
    go_ret2
    exact ⟨_, by rw [HA.out]; rfl, by rw [HA.out]; exact HO.out.wide HL.out.size (Nat.le_refl _), HL3.out⟩
end Go.Proofs.Ytoaopmafokoaoaa
