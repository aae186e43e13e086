/- Letters mirrored, in both. -/
import Derived.Test.YtmmapfdmdliifabDoorWdI
import Derived.Test.YtmmapfdmdliifabDoorWdD
namespace Go.Proofs.YtmmapfdmdliifabDoor
open Go.RowKit

theorem mirror_len (l : List UInt8) : (l.reverse.map mirLet).length = l.length := by simp
theorem mirror_at (l : List UInt8) (i : Nat) (c : UInt8) (h : i < l.length) (hc : l[l.length - 1 - i]? = some c) : (l.reverse.map mirLet)[i]? = some (mirLet c) := by
  rw [List.getElem?_map, List.getElem?_reverse h, hc]; rfl
theorem mirror_take (l : List UInt8) (i : Nat) (c : UInt8) (h : i < l.length) (hc : l[l.length - 1 - i]? = some c) : (l.reverse.map mirLet).take (i + 1) = (l.reverse.map mirLet).take i ++ [mirLet c] := by
  rw [List.take_add_one, mirror_at l i c h hc]; rfl

set_option maxRecDepth 20000 in
set_option maxHeartbeats 2000000 in
theorem mirLetter_any (s : ByteArray) (i : Nat) (ad : Addr) (w : World) (hs : s.size ≤ 40) (hi : i < s.size) (hl : s.data.toList.all isAB = true) (hc : w.cell? ad = some (.string s)) :
    Calls Tryd.prog 35 #[.int .i64 (i : Nat), .pointer (some ad)] w fun e w' => e = .returned (.int .u8 (((s.data.toList.reverse.map mirLet).getD i 0).toNat : Nat)) ∧ Later w w' := by
  obtain ⟨K, hK⟩ : ∃ K, s.size - 1 - i = K := ⟨_, rfl⟩
  have hKs : K < s.size := by omega
  have hm := mirror_at s.data.toList i (s[K]'hKs) (by rw [← size_list]; exact hi) (by rw [← size_list, hK]; exact byte_at s K hKs)
  rw [List.getD_eq_getElem?_getD, hm, Option.getD_some]
  have hab := (isAB_iff _).1 (List.all_eq_true.1 hl (s[K]'hKs) (List.mem_of_getElem? (byte_at s K hKs)))
  have hKi : (s.size : Int) - 1 - (i : Int) = (K : Int) := by omega
  have hKI : (K : Int) < (s.size : Int) := by omega
  clear hm hl hK
  rcases hab with h | h
  · have hn : (s[K]'hKs).toNat = 97 := by rw [h]; rfl
    have HM := hid (show mirLet (s[K]'hKs) = 98 by rw [h]; rfl)
    rw [HM.out]
    clear h
    go_enter Tryd.func35, Tryd.ntmps35
    go_wp2_with fail
    go_ret
    exact ⟨rfl, Later.refl _⟩
  · have hn : (s[K]'hKs).toNat = 98 := by rw [h]; rfl
    have HM := hid (show mirLet (s[K]'hKs) = 97 by rw [h]; rfl)
    rw [HM.out]
    clear h
    go_enter Tryd.func35, Tryd.ntmps35
    go_wp2_with fail
    go_ret
    exact ⟨rfl, Later.refl _⟩

set_option maxRecDepth 20000 in
set_option maxHeartbeats 1000000 in
theorem mirrored_any (s : ByteArray) (w : World) (hs : s.size ≤ 40) (hl : s.data.toList.all isAB = true) :
    Calls Tryd.prog 20 #[.string s] w fun e w' => ∃ v, e = .returned v ∧ Spells w' v (s.data.toList.reverse.map mirLet) ∧ Later w w' := by
  obtain ⟨W, hW⟩ : ∃ W, W = (w.alloc (.cells #[Value.string s] 9)).alloc (.cells #[Value.int .i64 (s.size : Nat), Value.func (.func 35) #[] #[.pointer (some ⟨w.heap.size, 0, none⟩)]] 35) := ⟨_, rfl⟩
  have cb : W.cell? ⟨w.heap.size, 0, none⟩ = some (.string s) := by rw [hW]; simp [go_sem]
  have r0 : W.cell? ⟨w.heap.size + 1, 0, none⟩ = some (.int .i64 (s.size : Nat)) := by rw [hW]; simp [go_sem]
  have r1 : W.cell? ⟨w.heap.size + 1, 1, none⟩ = some (.func (.func 35) #[] #[.pointer (some ⟨w.heap.size, 0, none⟩)]) := by rw [hW]; simp [go_sem]
  have HL := hid (show Later w W from hW ▸ ((Later.alloc w _).trans (Later.alloc _ _)))
  have HSP := hid (show Spells W (.agg #[.int .i64 (s.size : Nat), .func (.func 35) #[] #[.pointer (some ⟨w.heap.size, 0, none⟩)]]) (s.data.toList.reverse.map mirLet) from
    ⟨35, _, by rw [mirror_len, size_list], Tryd.call35, fun i w1 hi hL => by
      rw [mirror_len, ← size_list] at hi
      exact mirLetter_any s i _ w1 hs hi hl (hL.cell cb)⟩)
  have HW := hid hW
  have R0 := hid r0
  have R1 := hid r1
  clear hW cb r0 r1 hl
  go_enter Tryd.func20, Tryd.ntmps20
  go_wp2_with fail
  rw [← HW.out]
  have r0 := R0.out
  have r1 := R1.out
  refine bodyPost_ret (v := .agg #[.int .i64 (s.size : Nat), .func (.func 35) #[] #[.pointer (some ⟨w.heap.size, 0, none⟩)]]) ?_ rfl ⟨_, rfl, HSP.out, HL.out⟩
  rw [results_cell_1 rfl]
  go_simp

set_option maxRecDepth 20000 in
set_option maxHeartbeats 2000000 in
theorem implMirrorWord_any (s : ByteArray) (w : World) (hs : s.size ≤ 1048576) : Calls Tryd.prog 9 #[.string s] w fun e w' => StrAns w (mirrorAns s.data.toList) e w' := by
  have HC := hid (fun b w hb => implIsLetters_as s b w hs hb)
  cases hb : lettersW s.data.toList
  · have HA := hid (show mirrorAns s.data.toList = none by unfold mirrorAns; rw [if_neg (by simp [hb])])
    have HB := hid hb
    rw [HA.out]
    clear hb
    go_enter Tryd.func9, Tryd.ntmps9
    go_wp2_with fail
    refine (HC.out false _ HB.out).mono ?_
    rintro e w1 ⟨rfl, hL⟩
    go_wp2_with fail
    go_ret2
    exact ⟨rfl, hL⟩
  · have HA := hid (show mirrorAns s.data.toList = some (s.data.toList.reverse.map mirLet) by unfold mirrorAns; rw [if_pos hb])
    obtain ⟨_, h2, h3⟩ := (lettersW_iff _).1 hb
    rw [← size_list] at h2
    have HM := hid (fun w => mirrored_any s w h2 h3)
    have HLEN := hid (show (s.data.toList.reverse.map mirLet).length ≤ 1048576 by rw [mirror_len, ← size_list]; omega)
    have HB := hid hb
    rw [HA.out]
    obtain ⟨W, hW⟩ : ∃ W, s.data.toList.reverse.map mirLet = W := ⟨_, rfl⟩
    rw [hW] at HM HLEN ⊢
    clear hb h2 h3 hW
    go_enter Tryd.func9, Tryd.ntmps9
    go_wp2_with fail
    refine (HC.out true _ HB.out).mono ?_
    rintro e w1 ⟨rfl, hL⟩
    have HL1 := hid hL
    clear hL
    go_wp2_with fail
    refine (HM.out _).mono ?_
    rintro e w2 ⟨v, rfl, hsp, hL⟩
    have HL2 := hid (HL1.out.trans hL)
    have HSP := hid hsp
    clear hL hsp
    go_wp2_with fail
    refine (HSP.out.text HLEN.out).mono ?_
    rintro e w3 ⟨rfl, hL⟩
    have HL3 := hid (HL2.out.trans hL)
    clear hL
    go_wp2_with fail
    go_ret2
    exact ⟨rfl, HL3.out⟩

set_option maxRecDepth 20000 in
set_option maxHeartbeats 2000000 in
theorem specMirrorWord_any (s : ByteArray) (w : World) (_hs : s.size ≤ 1048576) : Calls Tryd.prog 8 #[.string s] w fun e w' => StrAns w (mirrorAns s.data.toList) e w' := by
  have HC := hid (fun b w hb => chLetters_as s b w hb)
  cases hb : lettersW s.data.toList
  · have HA := hid (show mirrorAns s.data.toList = none by unfold mirrorAns; rw [if_neg (by simp [hb])])
    have HB := hid hb
    rw [HA.out]
    clear hb
    go_enter Tryd.func8, Tryd.ntmps8
    go_wp2_with fail
    refine (HC.out false _ HB.out).mono ?_
    rintro e w1 ⟨rfl, rfl⟩
    go_wp2_with fail
    go_ret2
    exact ⟨rfl, Later.refl _⟩
  · have HA := hid (show mirrorAns s.data.toList = some (s.data.toList.reverse.map mirLet) by unfold mirrorAns; rw [if_pos hb])
    obtain ⟨_, h2, h3⟩ := (lettersW_iff _).1 hb
    rw [← size_list] at h2
    have HAB := hid (fun K (hK : K < s.size) => (isAB_iff _).1 (List.all_eq_true.1 h3 (s[K]'hK) (List.mem_of_getElem? (byte_at s K hK))))
    have HT := hid (fun i K (hi : i < s.size) (hK : K < s.size) (e : s.size - 1 - i = K) => mirror_take s.data.toList i (s[K]'hK) (by rw [← size_list]; exact hi) (by rw [← size_list, e]; exact byte_at s K hK))
    have HLEN := hid (show (s.data.toList.reverse.map mirLet).length = s.size by rw [mirror_len, size_list])
    have HB := hid hb
    rw [HA.out]
    obtain ⟨W, hW⟩ : ∃ W, s.data.toList.reverse.map mirLet = W := ⟨_, rfl⟩
    rw [hW] at HT HLEN ⊢
    clear hb h3 hW
    go_enter Tryd.func8, Tryd.ntmps8
    go_wp2_with fail
    refine (HC.out true _ HB.out).mono ?_
    rintro e w1 ⟨rfl, rfl⟩
    go_wp2_with fail
    go_loopw [4, 5] (fun o i wr => ∃ j : Nat, j ≤ s.size ∧ i = .int .i64 ((s.size : Int) - 1 - j) ∧ o = .string ⟨(W.take j).toArray⟩ ∧ Later w wr) (fun _ i _ => (intOf i + 1).toNat)
    case atStart => exact ⟨0, Nat.zero_le _, by simp, rfl, Later.refl _⟩
    case round =>
      obtain ⟨j, hj, rfl, rfl, hL⟩ := hrel
      have HLr := hid hL
      clear hL
      by_cases hlt : j < s.size
      · obtain ⟨K, hK⟩ : ∃ K, s.size - 1 - j = K := ⟨_, rfl⟩
        have hKs : K < s.size := by omega
        have hKi : (s.size : Int) - 1 - (j : Int) = (K : Int) := by omega
        have hKI : (K : Int) < (s.size : Int) := by omega
        have HTk := hid (HT.out j K hlt hKs hK)
        have hsz : (W.take j).length ≤ 40 := by rw [List.length_take]; omega
        obtain ⟨l, hl⟩ : ∃ l, W.take j = l := ⟨_, rfl⟩
        rw [hl] at HTk hsz ⊢
        have HKI := hid hKi
        rw [hKi]
        clear hl hK hKi
        rcases HAB.out K hKs with h | h
        · have hn : (s[K]'hKs).toNat = 97 := by rw [h]; rfl
          have HW2 := hid (show W.take (j + 1) = l ++ [98] by rw [HTk.out, h]; rfl)
          clear h
          go_wp2_with fail
          go_roundw
          case rel => exact ⟨j + 1, hlt, by have := HKI.out; congr 1; omega, by rw [HW2.out]; simp [ByteArray.ext_iff], HLr.out⟩
          case measure => simp [intOf]
        · have hn : (s[K]'hKs).toNat = 98 := by rw [h]; rfl
          have HW2 := hid (show W.take (j + 1) = l ++ [97] by rw [HTk.out, h]; rfl)
          clear h
          go_wp2_with fail
          go_roundw
          case rel => exact ⟨j + 1, hlt, by have := HKI.out; congr 1; omega, by rw [HW2.out]; simp [ByteArray.ext_iff], HLr.out⟩
          case measure => simp [intOf]
      · have hj2 : (s.size : Int) - 1 - (j : Int) = -1 := by omega
        have HE := hid (show W.take j = W from List.take_of_length_le (by rw [HLEN.out]; omega))
        rw [HE.out, hj2]
        clear hj2
        go_wp2_with fail
        go_ret2
        exact ⟨rfl, HLr.out⟩
end Go.Proofs.YtmmapfdmdliifabDoor
