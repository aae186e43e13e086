/- Four curvatures: sorted, RootQuad (the program). -/
import Derived.Test.YtoaopmafokoaoabQdM
import Derived.Test.YtoaopmafokoaoabLaySort
import Derived.Sort.OwnSortedInts
namespace Go.Proofs.Ytoaopmafokoaoab
open Go.RowKit

theorem sortQ_len (zs : List Int) : (sortQ zs).length = zs.length := by simp [sortQ]
open Go.Sort in
theorem sort4_any (b : Nat) (x y z t : Int) (w : World) (h : QBox w b x y z t) :
    Calls Try.prog 96 #[.slice (some ⟨b, 0, none⟩) 4 4] w fun e w' => e = .returned (.tuple #[]) ∧ w.grownBy w' (some b) ∧
      ∃ p q r s, sortQ [x, y, z, t] = [p, q, r, s] ∧ w'.cell? ⟨b, 0, none⟩ = some (.int .i64 p) ∧ w'.cell? ⟨b, 1, none⟩ = some (.int .i64 q) ∧ w'.cell? ⟨b, 2, none⟩ = some (.int .i64 r) ∧ w'.cell? ⟨b, 3, none⟩ = some (.int .i64 s) := by
  have hb : b < w.heap.size := h.lt
  have hH : Holds (Value.int .i64) w b 0 [x, y, z, t].toArray := by
    intro j hj
    match j, hj with
    | 0, _ => exact ⟨by simpa using h.c0, by simpa using h.f0⟩
    | 1, _ => exact ⟨by simpa using h.c1, by simpa using h.f1⟩
    | 2, _ => exact ⟨by simpa using h.c2, by simpa using h.f2⟩
    | 3, _ => exact ⟨by simpa using h.c3, by simpa using h.f3⟩
  refine (Any.slices_Sort_int laysLays189 b 0 4 [x, y, z, t] w hH hb (by simp)).mono ?_
  rintro e w' ⟨rfl, n, os, rfl⟩
  have hl : (sortQ [x, y, z, t]).length = 4 := sortQ_len _
  change _ ∧ _ ∧ _
  obtain ⟨p, q, r, s, hs⟩ := len4 hl
  have hs' : [x, y, z, t].mergeSort (fun a b => decide (a ≤ b)) = [p, q, r, s] := hs
  rw [hs']
  have hc := fun j hj => cell?_putRow (Value.int .i64) (Sort.ahead w n) b 0 [x, y, z, t].toArray [p, q, r, s].toArray (fun j hj => ⟨(hH j hj).1, (hH j hj).2⟩) (by simp) j hj
  have hg : ∀ a : Addr, a.block = b → (grow (putRow (Value.int .i64) (Sort.ahead w n) b 0 [p, q, r, s].toArray) os).cell? a = (putRow (Value.int .i64) (Sort.ahead w n) b 0 [p, q, r, s].toArray).cell? a := fun a ha => cell?_grow _ _ _ (by rw [ha]; simpa using hb)
  refine ⟨rfl, grownBy_sortedI _, p, q, r, s, hs, ?_, ?_, ?_, ?_⟩
  · rw [hg _ rfl]; simpa using hc 0 (by simp)
  · rw [hg _ rfl]; simpa using hc 1 (by simp)
  · rw [hg _ rfl]; simpa using hc 2 (by simp)
  · rw [hg _ rfl]; simpa using hc 3 (by simp)

set_option maxRecDepth 20000 in
set_option maxHeartbeats 2000000 in
theorem sortedS_any (a b c d : Int) (w : World) :
    Calls Try.prog 56 #[.agg #[.int .i64 a, .int .i64 b, .int .i64 c, .int .i64 d]] w fun e w' => QuadRes w (sortQ [a, b, c, d]) e w' := by
  have hA := Later.alloc w (.cells #[.int .i64 a, .int .i64 b, .int .i64 c, .int .i64 d] 62)
  have hA2 := Later.alloc (w.alloc (.cells #[.int .i64 a, .int .i64 b, .int .i64 c, .int .i64 d] 62)) (.cells #[.int .i64 0, .int .i64 0, .int .i64 0, .int .i64 0] 62)
  have HB := hid ((QBox.new w a b c d).later hA2)
  have hR := QBox.new (w.alloc (.cells #[.int .i64 a, .int .i64 b, .int .i64 c, .int .i64 d] 62)) 0 0 0 0
  rw [show (w.alloc (.cells #[.int .i64 a, .int .i64 b, .int .i64 c, .int .i64 d] 62)).heap.size = w.heap.size + 1 by simp] at hR
  have HR := hid hR
  have HL := hid (hA.trans hA2)
  clear hA hA2 hR
  go_enter Try.func56, Try.ntmps56
  go_wp2_with fail
  generalize (w.alloc (.cells #[.int .i64 a, .int .i64 b, .int .i64 c, .int .i64 d] 62)).alloc (.cells #[.int .i64 0, .int .i64 0, .int .i64 0, .int .i64 0] 62) = w1 at HB HR HL ⊢
  obtain ⟨B, hB⟩ : ∃ B, w.heap.size = B := ⟨_, rfl⟩
  have HBW := hid (show w.heap.size ≤ B by omega)
  rw [hB] at HB HR ⊢
  clear hB
  refine (sort4_any B a b c d w1 HB.out).mono ?_
  rintro e w2 ⟨rfl, hg, p, q, r, s, hs, c0, c1, c2, c3⟩
  have HS := hid hs
  have HR2 := hid (HR.out.keep (hg.block (B + 1) HR.out.lt (by simp)))
  have HL2 := hid (show Later w w2 from HL.out.grown hg HL.out.size (fun b hb => by simp at hb; subst hb; exact HBW.out))
  obtain ⟨d0, d1, d2, d3, f0, f1, f2, f3⟩ := HR2.out
  clear hg hs
  go_wp2_with fail
  have HR5 := hid (HR2.out.set p q r s)
  have HL5 := hid (setQ_later HL2.out (show w.heap.size ≤ B + 1 by have := HBW.out; omega) p q r s)
  clear c0 c1 c2 c3 d0 d1 d2 d3 f0 f1 f2 f3
  generalize ((((w2.setCell ⟨B + 1, 0, none⟩ (.int .i64 p)).setCell ⟨B + 1, 1, none⟩ (.int .i64 q)).setCell ⟨B + 1, 2, none⟩ (.int .i64 r)).setCell ⟨B + 1, 3, none⟩ (.int .i64 s)) = w5 at HR5 HL5 ⊢
  obtain ⟨d0, d1, d2, d3, _, _, _, _⟩ := HR5.out
  refine bodyPost_ret (v := .agg #[.int .i64 p, .int .i64 q, .int .i64 r, .int .i64 s]) ?_ rfl ⟨p, q, r, s, HS.out, rfl, HL5.out⟩
  rw [results_cellQ rfl]
  go_simp

set_option maxRecDepth 20000 in
set_option maxHeartbeats 4000000 in
theorem implRootQuad_any (v : Value) (zs : List Int) (w : World) (h : Ints w v zs) :
    Calls Try.prog 12 #[v] w fun e w' => IntsAns w (rootQAns zs) e w' := by
  obtain ⟨p, cap, rfl, hl, _⟩ := id h
  have H := hid h
  clear h
  cases hg : apB zs
  · have HG := hid hg
    have HA := hid (show rootQAns zs = none by unfold rootQAns; rw [hg]; simp)
    clear hg
    go_enter Try.func12, Try.ntmps12
    go_wp2_with fail
    refine (downPathOf_no _ zs _ HG.out H.out).mono ?_
    rintro e w1 ⟨rfl, hL⟩
    have HL := hid hL
    clear hL
    go_wp2_with fail
    go_ret2
    rw [HA.out]
    exact ⟨_, rfl, OwnInts.nothing0 _ _ _, HL.out⟩
  · have HG := hid hg
    have HA1 := hid (fun (h : (wayQ zs).length ≤ 200) => show rootQAns zs = some (rootL zs) by unfold rootQAns; rw [if_pos ⟨hg, h⟩])
    have HA2 := hid (fun (h : 200 < (wayQ zs).length) => show rootQAns zs = none by unfold rootQAns; rw [if_neg (by omega)])
    clear hg
    go_enter Try.func12, Try.ntmps12
    go_wp2_with fail
    refine (downPathOf_yes _ zs _ HG.out H.out).mono ?_
    rintro e w1 ⟨v2, L, rfl, ho, hm, hlb, hl1, hL⟩
    have hwl := (QWay.len HG.out hm).2.2
    have HWL := hid hwl
    have HO := hid ho
    have HM := hid hm
    have HL := hid hL
    obtain ⟨o1, o2, rfl, _⟩ := ho.shape
    clear ho hm hL hwl
    by_cases h200 : L.length ≤ 200
    · have hd : decide ((L.length : Int) ≤ 200) = true := decide_eq_true (by omega)
      have HA := hid (HA1.out (by rw [HWL.out]; exact h200))
      obtain ⟨n, hn⟩ : ∃ n, L.length = n + 1 := ⟨L.length - 1, by omega⟩
      obtain ⟨_, _, e1, _, hcs⟩ := HO.out.qs (by omega)
      obtain ⟨g, hgg, d0, d1, d2, d3⟩ := hcs n (by omega)
      simp only [Value.slice.injEq] at e1
      obtain ⟨rfl, _, rfl⟩ := e1
      subst hgg
      obtain ⟨⟨x, y, z, t⟩, hs'⟩ : ∃ s, L[n] = s := ⟨_, rfl⟩
      have HE := hid (show rootL zs = sortQ [x, y, z, t] by
        unfold rootL
        rw [← HM.out, List.length_map, hn, Nat.add_sub_cancel]
        simp [hn, hs', qsL])
      rw [hs'] at d0 d1 d2 d3
      have hnb : (n : Int) ≤ 400000 := by omega
      rw [hd, hn]
      simp only at d0 d1 d2 d3
      clear hcs hs' hn h200 hlb hl1
      go_wp2_with fail
      refine (sortedS_any x y z t _).mono ?_
      rintro e w3 ⟨p', q', r', s', hpq, rfl, hL3⟩
      have HPQ := hid hpq
      have HL3 := hid (HL.out.trans hL3)
      clear hL3 hpq d0 d1 d2 d3
      go_wp2_with fail
      refine (listQ_any p' q' r' s' _).mono ?_
      rintro e w4 ⟨v4, rfl, ho4, hL4⟩
      have HO4 := hid (ho4.wide HL3.out.size (Nat.le_refl _))
      have HL4 := hid (HL3.out.trans hL4)
      clear ho4 hL4
      go_wp2_with fail
      go_ret2
      rw [HA.out, HE.out, HPQ.out]
      exact ⟨_, rfl, HO4.out, HL4.out⟩
    · have hd : decide ((L.length : Int) ≤ 200) = false := decide_eq_false (by omega)
      have HA := hid (HA2.out (by rw [HWL.out]; omega))
      rw [hd]
      go_wp2_with fail
      go_ret2
      rw [HA.out]
      exact ⟨_, rfl, OwnInts.nothing0 _ _ _, HL.out⟩
end Go.Proofs.Ytoaopmafokoaoab
