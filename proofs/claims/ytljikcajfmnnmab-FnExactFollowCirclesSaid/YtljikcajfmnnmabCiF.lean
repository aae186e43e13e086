/- Configurations: the model's test. -/
import Derived.Test.YtljikcajfmnnmabCiE
namespace Go.Proofs.Ytljikcajfmnnmab
open Go.RowKit

theorem ciTw_comm (c d : Ci4) : ciTw c d = ciTw d c := by
  obtain ⟨a, b, x, y⟩ := c
  obtain ⟨p, q, r, s⟩ := d
  unfold ciTw
  simp only
  grind
def twP (L : List Ci4) (i j : Nat) : Bool := ciTw (L.getD i c00) (L.getD j c00) == -2
def confB (L : List Ci4) : Bool := fourB L && (List.range L.length).all fun i => (List.range i).all fun j => twP L i j
theorem fourB_len {L : List Ci4} (h : fourB L = true) : L.length = 4 := by
  unfold fourB at h; rw [Bool.and_eq_true] at h; exact of_decide_eq_true h.1
theorem fourB_all {L : List Ci4} (h : fourB L = true) : ∀ i, i < L.length → ciB (L.getD i c00) = true := by
  unfold fourB at h; rw [Bool.and_eq_true, List.all_eq_true] at h
  intro i hi
  exact h.2 _ (by rw [show L.getD i c00 = L[i] by simp [hi]]; exact List.getElem_mem hi)
theorem confB_true {L : List Ci4} (h4 : fourB L = true) (h : ∀ i j, j < i → i < L.length → twP L i j = true) : confB L = true := by
  unfold confB
  rw [h4, Bool.true_and, List.all_eq_true]
  intro i hi
  rw [List.all_eq_true]
  intro j hj
  exact h i j (List.mem_range.1 hj) (List.mem_range.1 hi)
theorem confB_false {L : List Ci4} (i j : Nat) (hj : j < i) (hi : i < L.length) (h : twP L i j = false) : confB L = false := by
  unfold confB
  rw [Bool.and_eq_false_iff]
  right
  rw [List.all_eq_false]
  refine ⟨i, List.mem_range.2 hi, ?_⟩
  rw [Bool.not_eq_true, List.all_eq_false]
  exact ⟨j, List.mem_range.2 hj, by rw [h]; simp⟩
theorem confB_no {L : List Ci4} (h4 : fourB L = false) : confB L = false := by unfold confB; rw [h4]; rfl
theorem confB_four {L : List Ci4} (h : confB L = true) : fourB L = true := by unfold confB at h; rw [Bool.and_eq_true] at h; exact h.1
theorem confB_tw {L : List Ci4} (h : confB L = true) (i j : Nat) (hj : j < i) (hi : i < L.length) : twP L i j = true := by
  unfold confB at h; rw [Bool.and_eq_true, List.all_eq_true] at h
  exact List.all_eq_true.1 (h.2 i (List.mem_range.2 hi)) j (List.mem_range.2 hj)

set_option maxRecDepth 20000 in
set_option maxHeartbeats 2000000 in
theorem ciConfig_any (v : Value) (L : List Ci4) (w : World) (h : Cis w v L) :
    Calls Try.prog 43 #[v] w fun e w' => BoolRes w (confB L) e w' := by
  obtain ⟨a, cap, rfl, hl, hcap, _⟩ := id h
  have H := hid h
  have HCAP := hid hcap
  clear h hcap
  cases h4 : fourB L
  · have HF := hid h4
    have HO := hid (confB_no h4)
    clear h4
    go_enter Try.func43, Try.ntmps43
    go_wp2_with fail
    refine (ciFour_as _ L false _ H.out HF.out).mono ?_
    rintro e w2 ⟨rfl, hL⟩
    have HL := hid hL
    clear hL
    go_wp2_with fail
    go_ret
    exact ⟨ret_bool HO.out.symm, HL.out⟩
  · have HF := hid h4
    have HN := hid (fourB_len h4)
    have HALL := hid (fourB_all h4)
    obtain ⟨o, ho⟩ : ∃ o, confB L = o := ⟨_, rfl⟩
    have HOT := hid (fun hh => ho.symm.trans (confB_true h4 hh))
    have HOF := hid (fun i j hj hi hh => ho.symm.trans (confB_false (L := L) i j hj hi hh))
    rw [ho]
    clear h4 ho
    go_enter Try.func43, Try.ntmps43
    go_wp2_with fail
    refine (ciFour_as _ L true _ H.out HF.out).mono ?_
    rintro e w2 ⟨rfl, hL⟩
    have HL := hid hL
    clear hL
    go_wp2_with fail
    go_loopw [12] (fun i wr => ∃ k : Nat, k ≤ L.length ∧ i = .int .i64 k ∧ (∀ i j, j < i → i < k → twP L i j = true) ∧ Later w wr) (fun i _ => L.length - (intOf i).toNat)
    case atStart => exact ⟨0, Nat.zero_le _, rfl, fun i j _ hi => absurd hi (Nat.not_lt_zero i), HL.out⟩
    case round =>
      clear HL
      obtain ⟨k, hk, rfl, hpre, hL⟩ := hrel
      have HP := hid hpre
      have HL := hid hL
      clear hpre
      by_cases hlt : k < L.length
      · obtain ⟨g, rfl, c0, c1, c2, c3⟩ := (H.out.later hL).at k hlt
        have HCk := hid (HALL.out k hlt)
        have hkc : k ≤ cap := by have := HCAP.out; omega
        have HTW := hid (fun j => show twP L k j = (ciTw (L.getD k c00) (L.getD j c00) == -2) from rfl)
        obtain ⟨t, ht⟩ : ∃ t, L.getD k c00 = t := ⟨_, rfl⟩
        rw [ht] at c0 c1 c2 c3 HCk HTW
        obtain ⟨p, q, r, s⟩ := t
        simp only at c0 c1 c2 c3
        have HLA := hid (HL.out.trans (Later.alloc wr (.cells #[.int .i64 p, .int .i64 q, .int .i64 r, .int .i64 s] 50)))
        have HBX := hid (CBox.new wr p q r s 50)
        obtain ⟨B, hB⟩ : ∃ B, wr.heap.size = B := ⟨_, rfl⟩
        clear ht hL
        go_wp2_with fail
        generalize wr.alloc (.cells #[.int .i64 p, .int .i64 q, .int .i64 r, .int .i64 s] 50) = wa at HLA HBX ⊢
        rw [hB] at HBX
        clear hB c0 c1 c2 c3 HL
        go_loopw [21] (fun i wi => ∃ m : Nat, m ≤ k ∧ i = .int .i64 m ∧ (∀ j, j < m → twP L k j = true) ∧ Later wa wi) (fun i _ => k - (intOf i).toNat)
        case atStart => exact ⟨0, Nat.zero_le _, rfl, fun j hj => absurd hj (Nat.not_lt_zero j), Later.refl _⟩
        case round =>
          obtain ⟨m, hm, rfl, hin, hLi⟩ := hrel
          have HIN := hid hin
          have HLI := hid hLi
          clear hin
          by_cases hmk : m < k
          · obtain ⟨g', e, d0, d1, d2, d3⟩ := (H.out.later (HLA.out.trans hLi)).at m (by omega)
            simp only [Option.some.injEq, Addr.mk.injEq, and_true] at e
            subst e
            have HCm := hid (HALL.out m (by omega))
            have HTm := hid (HTW.out m)
            have HFm := hid (fun hh => HOF.out k m hmk hlt hh)
            have HNx := hid (fun (hh : twP L k m = true) j (hj : j < m + 1) => show twP L k j = true from if e : j = m then by rw [e]; exact hh else HIN.out j (by omega))
            obtain ⟨u, hu⟩ : ∃ u, L.getD m c00 = u := ⟨_, rfl⟩
            rw [hu] at d0 d1 d2 d3 HCm HTm
            obtain ⟨p2, q2, r2, s2⟩ := u
            simp only at d0 d1 d2 d3
            have HBI := hid ((HBX.out.later hLi).later (Later.alloc wr (.cells #[.int .i64 p2, .int .i64 q2, .int .i64 r2, .int .i64 s2] 50)))
            have HLJ := hid (HLI.out.trans (Later.alloc wr (.cells #[.int .i64 p2, .int .i64 q2, .int .i64 r2, .int .i64 s2] 50)))
            have HBJ := hid (CBox.new wr p2 q2 r2 s2 50)
            clear hu hLi
            obtain ⟨b0, b1, b2, b3⟩ := HBI.out
            cases ht : twP L k m
            · have HF2 := hid (HFm.out ht)
              have hne : (ciTw (p, q, r, s) (p2, q2, r2, s2) != -2) = true := by rw [bne, ← HTm.out, ht]; rfl
              have HTT := hid (fun w0 => twiceS_any p q r s p2 q2 r2 s2 w0 (ciB_in HCk.out) (ciB_in HCm.out))
              obtain ⟨T, hT⟩ : ∃ T, ciTw (p, q, r, s) (p2, q2, r2, s2) = T := ⟨_, rfl⟩
              rw [hT] at hne HTT
              clear ht hT HNx HTm
              go_wp2_with fail
              generalize wr.alloc (.cells #[.int .i64 p2, .int .i64 q2, .int .i64 r2, .int .i64 s2] 50) = wb at HBI HLJ HBJ b0 b1 b2 b3 ⊢
              refine (HTT.out _).mono ?_
              rintro e w3 ⟨rfl, hL3⟩
              have HL3 := hid ((HLA.out.trans HLJ.out).trans hL3)
              clear hL3
              go_wp2_with fail
              go_ret
              exact ⟨ret_bool HF2.out.symm, HL3.out⟩
            · have HN2 := hid (HNx.out ht)
              have hne : (ciTw (p, q, r, s) (p2, q2, r2, s2) != -2) = false := by rw [bne, ← HTm.out, ht]; rfl
              have HTT := hid (fun w0 => twiceS_any p q r s p2 q2 r2 s2 w0 (ciB_in HCk.out) (ciB_in HCm.out))
              obtain ⟨T, hT⟩ : ∃ T, ciTw (p, q, r, s) (p2, q2, r2, s2) = T := ⟨_, rfl⟩
              rw [hT] at hne HTT
              clear ht hT HNx HTm HFm
              go_wp2_with fail
              generalize wr.alloc (.cells #[.int .i64 p2, .int .i64 q2, .int .i64 r2, .int .i64 s2] 50) = wb at HBI HLJ HBJ b0 b1 b2 b3 ⊢
              refine (HTT.out _).mono ?_
              rintro e w3 ⟨rfl, hL3⟩
              have HL3 := hid (HLJ.out.trans hL3)
              clear hL3
              go_wp2_with fail
              go_roundw
              case rel => exact ⟨m + 1, hmk, by go_num, HN2.out, HL3.out⟩
              case measure => simp [intOf]; omega
          · obtain rfl : m = k := by omega
            go_wp2_with fail
            go_roundw
            case rel => exact ⟨m + 1, hlt, by go_num, fun i j hj hi => if e : i = m then by subst e; exact HIN.out j hj else HP.out i j hj (by omega), HLA.out.trans HLI.out⟩
            case measure => simp [intOf]; omega
      · have HO := hid (HOT.out (fun i j hj hi => HP.out i j hj (by omega)))
        go_wp2_with fail
        go_ret
        exact ⟨ret_bool HO.out.symm, HL.out⟩
end Go.Proofs.Ytljikcajfmnnmab
