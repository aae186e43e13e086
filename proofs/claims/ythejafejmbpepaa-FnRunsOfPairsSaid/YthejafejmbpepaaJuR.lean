/- Ways down in the model: juRun, DescendPair. -/
import Derived.Test.YthejafejmbpepaaJuO
import Derived.Test.YthejafejmbpepaaJuP
import Derived.Test.YthejafejmbpepaaAns2
namespace Go.Proofs.Ythejafejmbpepaa
open Go.RowKit

theorem toldJ_getD {R : List Jp2} (h : R.length ≤ 1000) : (toldJ R).getD [] = R.map jpL := by unfold toldJ; rw [if_pos h]; rfl
theorem toldJ_over {R : List Jp2} (h : 1000 < R.length) : toldJ R = none := if_neg (by omega)
set_option maxRecDepth 20000 in
set_option maxHeartbeats 4000000 in
theorem juRun_any (x y k : Int) (w : World) (hk : 0 ≤ k ∧ k ≤ 1000000000000) (hN : jpN (x, y)) :
    Calls Try.prog 62 #[.int .i64 x, .int .i64 y, .int .i64 k, .int .i64 1000] w fun e w' => ∃ v, e = .returned v ∧ OwnRows w.heap.size w'.heap.size w' v ((toldJ (dnRun k (x, y))).getD []) ∧ Later w w' := by
  obtain ⟨R, hR⟩ : ∃ R, dnRun k (x, y) = R := ⟨_, rfl⟩
  have HR := hid (show runJ (dnJ k) 1001 (x, y) = R from hR)
  rw [hR]
  have HK := hid hk
  have HN := hid hN
  have HO : Hid (OwnRows w.heap.size ((w.alloc (.cells #[.int .i64 x, .int .i64 y] 3)).alloc (.cells #[.slice (some ⟨w.heap.size, 0, none⟩) 2 2] 34)).heap.size ((w.alloc (.cells #[.int .i64 x, .int .i64 y] 3)).alloc (.cells #[.slice (some ⟨w.heap.size, 0, none⟩) 2 2] 34)) (.slice (some ⟨w.heap.size + 1, 0, none⟩) 1 1) [[x, y]]) := hid (by
    have h := OwnRows.oneH (Later.alloc w _).size (lit2J w x y)
    simpa using h)
  have HL := hid ((Later.alloc w (.cells #[.int .i64 x, .int .i64 y] 3)).trans (Later.alloc _ (.cells #[.slice (some ⟨w.heap.size, 0, none⟩) 2 2] 34)))
  clear hR hk hN
  go_enter Try.func62, Try.ntmps62
  go_wp2_with fail
  generalize (w.alloc (.cells #[.int .i64 x, .int .i64 y] 3)).alloc (.cells #[.slice (some ⟨w.heap.size, 0, none⟩) 2 2] 34) = w1 at HO HL ⊢
  go_loopw [0, 1, 9] (fun s0 s1 o wr => ∃ (a b : Int) (M : List Jp2), s0 = .int .i64 a ∧ s1 = .int .i64 b ∧ jpN (a, b) ∧ OwnRows w.heap.size wr.heap.size wr o (M.map jpL ++ [[a, b]]) ∧ M ++ runJ (dnJ k) (1001 - M.length) (a, b) = R ∧ M.length ≤ 999 ∧ Later w wr)
    (fun _ _ o _ => 1002 - lenOfH o)
  case atStart => exact ⟨x, y, [], rfl, rfl, HN.out, HO.out, by simpa using HR.out, by simp, HL.out⟩
  case round =>
    clear HO HL
    obtain ⟨a, b, M, rfl, rfl, hN, hO, hR, hM, hL⟩ := hrel
    have HNr := hid hN
    have HO := hid hO
    have HL := hid hL
    have HRr := hid hR
    obtain ⟨o1, o2, rfl, _⟩ := hO.shape
    have hlen : (M.map jpL ++ [[a, b]]).length = M.length + 1 := by simp
    rw [hlen] at HO ⊢
    have HW := hid (show w.heap.size ≤ wr.heap.size from HL.out.size)
    obtain ⟨m, hm⟩ : ∃ m, 1001 - M.length = m + 1 := ⟨1000 - M.length, by omega⟩
    have HM := hid hm
    rw [hm] at HRr
    clear hN hO hL hR hlen hm
    cases hd : dnJ k (a, b) with
    | none =>
      have HD := hid (fun w0 => juDown_as a b k w0 HK.out HNr.out _ hd)
      have HE := hid (show M ++ [(a, b)] = R by have h := HRr.out; rw [runJ_none hd] at h; exact h)
      have HT := hid (show (toldJ R).getD [] = M.map jpL ++ [[a, b]] by rw [← HE.out, toldJ_getD (by simp; omega)]; simp [jpL])
      clear hd
      go_wp2_with (go_at_call 47; refine (HD.out _).mono ?_; rintro e w2 ⟨rfl, rfl⟩; simp only [Option.getD_none, Option.isSome_none])
      go_ret
      exact ⟨_, rfl, by rw [HT.out]; exact HO.out, HL.out⟩
    | some q =>
      obtain ⟨qa, qb⟩ := q
      have HD := hid (fun w0 => juDown_as a b k w0 HK.out HNr.out _ hd)
      have HG := hid (dnJ_good HNr.out hd).1
      have HE := hid (show M ++ (a, b) :: runJ (dnJ k) m (qa, qb) = R by have h := HRr.out; rw [runJ_some hd] at h; exact h)
      clear hd
      by_cases hf : M.length = 999
      · have HT := hid (show (toldJ R).getD [] = [] by
          obtain ⟨m', hm'⟩ : ∃ m', m = m' + 1 := ⟨m - 1, by have := HM.out; omega⟩
          rw [toldJ_over (by rw [← HE.out, hm']; simp [runJ]; omega)]; rfl)
        have hfI : ((M.length + 1 : Nat) : Int) = 1000 := by omega
        go_wp2_with (go_at_call 47; refine (HD.out _).mono ?_; rintro e w2 ⟨rfl, rfl⟩; simp only [Option.getD_some, Option.isSome_some])
        go_ret
        exact ⟨_, rfl, by rw [HT.out]; exact OwnRows.noneH _ _ _, HL.out⟩
      · have hfI : (((M.length + 1 : Nat) : Int) == 1000) = false := by rw [beq_eq_false_iff_ne]; omega
        have hl2 : (M.map jpL ++ [[a, b]]).length = M.length + 1 := by simp
        have HLN := hid (show (M.map jpL ++ [[a, b]]).length ≤ 1000000 by rw [hl2]; omega)
        obtain ⟨MM, hMM⟩ : ∃ MM, M.map jpL ++ [[a, b]] = MM := ⟨_, rfl⟩
        have HMM := hid hMM
        have HL2 := hid hl2
        rw [hMM] at HO HLN HL2
        clear hMM hl2
        go_wp2_with (first
          | (go_at_call 47; refine (HD.out _).mono ?_; rintro e w2 ⟨rfl, rfl⟩; simp only [Option.getD_some, Option.isSome_some])
          | (at_builtin; refine wpList_push2 (by rfl) _ _ (by rfl) w.heap.size wr _ (.slice o1 (M.length + 1) o2) MM qa qb (by rfl) HW.out HO.out HLN.out (by rfl) rfl ?_))
        intro g' cap1 w7 hO7 hG7 _
        have HO7 := hid hO7
        have HL7 := hid (show Later w w7 from later_grown HL.out hG7 (fun b' hb' => by obtain ⟨us, _, hus, _⟩ := HO.out.partsH; exact (hus.lt b' hb').1))
        clear hO7 hG7
        rw [HL2.out] at HO7 ⊢
        go_wp2_with fail
        go_roundw
        case rel => exact ⟨qa, qb, M ++ [(a, b)], rfl, rfl, HG.out, by have h := HO7.out; rw [← HMM.out] at h; simpa [jpL] using h, by rw [List.append_assoc, List.singleton_append, List.length_append, List.length_singleton, show 1001 - (M.length + 1) = m by have := HM.out; omega]; exact HE.out, by simp; omega, HL7.out⟩
        case measure => simp only [lenOfH]; omega
set_option maxRecDepth 20000 in
set_option maxHeartbeats 2000000 in
theorem specDescendPair_any (x y k c : Int) (w : World) :
    Calls Try.prog 23 #[.int .i64 x, .int .i64 y, .int .i64 k, .int .i64 c] w fun e w' => RowsAns w (descAns x y k c) e w' := by
  cases hW : juW k c
  · have HW := hid hW
    have HA := hid (show descAns x y k c = none from if_neg (by rw [juB_noW hW]; simp))
    clear hW
    go_enter Try.func23, Try.ntmps23
    go_wp2_with (go_at_call 45; refine (juGiven_as _ _ _ _ HW.out).mono ?_; rintro e w2 ⟨rfl, rfl⟩)
    go_ret2
    rw [HA.out]
    exact ⟨_, rfl, OwnRows.noneH _ _ _, Later.refl _⟩
  · cases hG : juGd x y k c
    · have HW := hid hW
      have HG := hid hG
      have HA := hid (show descAns x y k c = none from if_neg (by rw [juB_noG hG]; simp))
      clear hW hG
      go_enter Try.func23, Try.ntmps23
      go_wp2_with (first | (go_at_call 45; refine (juGiven_as _ _ _ _ HW.out).mono ?_; rintro e w2 ⟨rfl, rfl⟩) | (go_at_call 46; refine (juGood_as _ _ _ _ _ _ HW.out HG.out).mono ?_; rintro e w2 ⟨rfl, rfl⟩))
      go_ret2
      rw [HA.out]
      exact ⟨_, rfl, OwnRows.noneH _ _ _, Later.refl _⟩
    · have HW := hid hW
      have HG := hid hG
      obtain ⟨k1, k2, e1, e2⟩ := juW_iff.1 hW
      have HR := hid (fun w0 => juRun_any x y k w0 ⟨by omega, by omega⟩ (juGd_N hG))
      have HA := hid (show descAns x y k c = toldJ (dnRun k (x, y)) from if_pos (juB_mk hW hG))
      have HP := hid (show 1 ≤ (dnRun k (x, y)).length from runJ_pos _ _ _)
      obtain ⟨R, hR⟩ : ∃ R, dnRun k (x, y) = R := ⟨_, rfl⟩
      rw [hR] at HR HA HP
      have HQ := hid (show decide ((((toldJ R).getD []).length : Int) > 0) = (toldJ R).isSome by
        have := HP.out
        unfold toldJ
        split
        · simp; omega
        · simp)
      rw [HA.out]
      obtain ⟨T, hT⟩ : ∃ T, toldJ R = T := ⟨_, rfl⟩
      rw [hT] at HR HQ ⊢
      clear hW hG hR hT HA HP
      go_enter Try.func23, Try.ntmps23
      go_wp2_with (first | (go_at_call 45; refine (juGiven_as _ _ _ _ HW.out).mono ?_; rintro e w2 ⟨rfl, rfl⟩) | (go_at_call 46; refine (juGood_as _ _ _ _ _ _ HW.out HG.out).mono ?_; rintro e w2 ⟨rfl, rfl⟩))
      refine (HR.out _).mono ?_
      rintro e w3 ⟨v3, rfl, ho, hL3⟩
      have HO := hid ho
      have HL := hid hL3
      obtain ⟨o1, o2, rfl, _⟩ := ho.shape
      clear ho hL3
      go_wp2_with fail
      go_ret2
      exact ⟨_, by rw [← HQ.out]; simp, HO.out, HL.out⟩
end Go.Proofs.Ythejafejmbpepaa
