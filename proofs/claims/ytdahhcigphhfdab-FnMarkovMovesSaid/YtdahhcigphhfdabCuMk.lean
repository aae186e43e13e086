/- What the model draws for Markov triples: a list that is mostly one. -/
import Derived.Test.YtdahhcigphhfdabTsG
import Derived.Test.YtdahhcigphhfdabMkLa
namespace Go.Proofs.Ytdahhcigphhfdab
open Go.RowKit

theorem T3_one : T3 1 1 1 := ⟨by omega, by omega, by omega, by omega, by omega, by omega⟩
set_option maxRecDepth 20000 in
set_option maxHeartbeats 8000000 in
theorem curMarkov_any (base w : World) (B : Nat) (v : Value) (bs : List Int) (m : Nat) (hm : m ≤ 1000) (h : Cur base w B v bs m) :
    Calls Try.prog 103 #[.pointer (some ⟨B, 0, none⟩)] w fun e w' => CurListM base B v bs (m + 200) e w' := by
  have H := hid (h.allocG (.cells #[.int .i64 1, .int .i64 1, .int .i64 1] 3))
  have HO := hid (ownInts_litG w (B + 1) h.ltG [1, 1, 1] (by simp))
  have HM := hid hm
  clear h hm
  go_enter Try.func103, Try.ntmps103
  go_upto_region 2 with fail
  obtain ⟨g0, hg0⟩ : ∃ g, w.heap.size = g := ⟨_, rfl⟩
  have HO1 := hid (show OwnInts (B + 1) (w.alloc (.cells #[.int .i64 1, .int .i64 1, .int .i64 1] 3)).heap.size (w.alloc (.cells #[.int .i64 1, .int .i64 1, .int .i64 1] 3)) (.slice (some ⟨g0, 0, none⟩) 3 3) [1, 1, 1] by rw [← hg0]; exact HO.out)
  rw [hg0]
  clear HO hg0
  generalize w.alloc (.cells #[.int .i64 1, .int .i64 1, .int .i64 1] 3) = w1 at H HO1 ⊢
  go_wp2_with fail
  refine (curLitG_any base w1 B v bs m [0, 1, 2, 3, 4, 6, 9, 14] (by have := HM.out; omega) (by simp) (by simp) H.out).mono ?_
  rintro e w2 ⟨n, rfl, hn, hC, hG⟩
  have HC2 := hid hC
  have HO2 := hid (HO1.out.keepG (Nat.lt_succ_self B) hG)
  have n1 : 0 ≤ n ∧ n ≤ 14 := by simp at hn; omega
  clear hn hC hG H HO1
  go_wp2_with fail
  go_loopw [3, 4] (fun st sk wr => ∃ (x y z : Int) (j : Nat), sk = .int .i64 j ∧ j ≤ 14 ∧ OwnInts (B + 1) wr.heap.size wr st [x, y, z] ∧ T3 x y z ∧ Cur base wr B v bs (m + 40 - 2 * j)) (fun _ sk _ => (intOf sk).toNat)
  case atStart => exact ⟨1, 1, 1, n.toNat, by rw [Int.toNat_of_nonneg n1.1], by omega, HO2.out, T3_one, HC2.out.mono (by omega)⟩
  case round =>
    obtain ⟨x, y, z, j, rfl, hj, hO, hT, hC⟩ := hrel
    have HT := hid hT
    have HC := hid hC
    have HB := hid hC.ltG
    obtain ⟨a0, cap0, e0, hcap, _, _, hsh⟩ := ownsRow_shape hO.1
    obtain ⟨g, rfl, _⟩ := hsh 0 (by simp)
    subst e0
    have HO := hid hO
    clear hT hC hO hsh
    simp only [List.length_cons, List.length_nil, Nat.zero_add, Nat.reduceAdd] at HO hcap ⊢
    cases j with
    | succ j =>
      have HJ := hid hj
      have hjw := wrapQ (q := (j : Int)) (by omega)
      have HU := hid (mkUp_any x y z ⟨g, 0, none⟩ cap0 wr HT.out HO.out.ints)
      clear hj hcap
      go_wp2_with fail
      refine HU.out.mono ?_
      rintro e w3 ⟨v3, rfl, hR, hL3⟩
      obtain ⟨a3, c3, rfl, _⟩ := hR.shape
      have HR := hid hR
      have HC3 := hid (HC.out.keep hL3)
      have HO3 := hid ((HO.out.later hL3).wide (Nat.le_refl _) hL3.size)
      clear hR hL3 HU
      obtain ⟨N, hN⟩ : ∃ n, (upsU x y z).length = n := ⟨_, rfl⟩
      have hN2 : N ≤ 2 := by rw [← hN]; exact ups_len x y z
      have HN := hid hN
      rw [hN] at HR ⊢
      clear hN
      by_cases h0 : 0 < N
      · have h0I : (0 : Int) < (N : Int) := by omega
        go_wp2_with fail
        refine (curPick_any base w3 B v bs _ (N : Int) (by have := HM.out; omega) (by omega) HC3.out).mono ?_
        rintro e w4 ⟨q, rfl, q0, q1, hC, hG⟩
        obtain ⟨i, rfl⟩ : ∃ i : Nat, q = (i : Int) := ⟨q.toNat, by omega⟩
        have hiN : i < N := by split at q1 <;> omega
        have hR2 := HR.out
        rw [← HN.out] at hR2
        obtain ⟨g4, cap4, u4, e4, hc4, hO4⟩ := rowGrownM hR2 HB.out hG (i := i) (by rw [HN.out]; exact hiN)
        obtain ⟨a', b', c', e5, hT4⟩ := up_T3 HT.out (List.getElem_mem (l := upsU x y z) (n := i) (by rw [HN.out]; exact hiN))
        have e6 : (upsU x y z).getD i [] = [a', b', c'] := by rw [List.getD_eq_getElem?_getD, List.getElem?_eq_getElem (by rw [HN.out]; exact hiN), e5]; rfl
        rw [e6] at hO4
        simp only [Value.slice.injEq] at e4
        obtain ⟨rfl, _, rfl⟩ := e4
        have HO4 := hid (hO4.wide HB.out (Nat.le_refl _))
        have HT4 := hid hT4
        have HC4 := hid hC
        have hiI : (i : Int) < (N : Int) := by omega
        have hi0 : (0 : Int) ≤ (i : Int) := by omega
        clear hC hG q1 e5 e6 hT4 hR2 HR HN hO4
        go_wp2_with fail
        go_roundw
        case rel => exact ⟨a', b', c', j, by go_num, by have := HJ.out; omega, HO4.out, HT4.out, HC4.out.mono (by have := HJ.out; omega)⟩
        case measure => simp [intOf]
      · have h0I : ¬ (0 : Int) < (N : Int) := by omega
        go_wp2_with fail
        go_roundw
        case rel => exact ⟨x, y, z, j, by go_num, by have := HJ.out; omega, HO3.out, HT.out, HC3.out.mono (by have := HJ.out; omega)⟩
        case measure => simp [intOf]
    | zero =>
      have HC0 := hid (HC.out.mono (show m + 40 - 2 * 0 ≤ m + 40 by omega))
      have HW := hid (l1OwnH_any ⟨g, 0, none⟩ 3 cap0 [x, y, z] wr rfl (by omega) HO.out.ints)
      clear HC hcap
      go_wp2_with fail
      refine HW.out.mono ?_
      rintro e w6 ⟨vt, rfl, ho, hL6⟩
      have hB6 : B + 1 ≤ w6.heap.size := Nat.le_trans HB.out hL6.size
      have HO6 := hid (show OwnInts (B + 1) w6.heap.size w6 vt [x, y, z] from ho.wide HB.out (Nat.le_refl _))
      have HC6 := hid (HC0.out.keep hL6)
      clear ho hL6 HW HO HC0
      obtain ⟨Z0, hZ0⟩ : ∃ a, x = a := ⟨_, rfl⟩
      obtain ⟨Z1, hZ1⟩ : ∃ a, y = a := ⟨_, rfl⟩
      obtain ⟨Z2, hZ2⟩ : ∃ a, z = a := ⟨_, rfl⟩
      rw [hZ0, hZ1, hZ2] at HO6
      clear hZ0 hZ1 hZ2 HT hj
      obtain ⟨ga0, gc, e0, _, _, _, hsh⟩ := ownsRow_shape HO6.out.1
      obtain ⟨gg, rfl, _⟩ := hsh 0 (by simp)
      subst e0
      clear hsh
      simp only [List.length_cons, List.length_nil, Nat.zero_add, Nat.reduceAdd] at HO6 ⊢
      go_wp2_with fail
      refine (curPick_any base w6 B v bs _ 20 (by have := HM.out; omega) (by omega) HC6.out).mono ?_
      rintro e w7 ⟨c, rfl, c0, c1, hC, hG⟩
      have HC7 := hid hC
      have HO7 := hid (HO6.out.keepG (Nat.lt_succ_self B) hG)
      have HB7 := hid hC.ltG
      have HT7 := hid (show TsM base B v bs (m + 70) gg gc [Z0, Z1, Z2] w7 from ⟨HC7.out.mono (by omega), HO7.out⟩)
      clear hC hG HO6 HC6 HC7 HO7 c1
      by_cases e0 : c = 0
      · subst e0
        clear c0
        have LM : Hid (m + 80 ≤ 900000000) := hid (by have := HM.out; omega)
        go_wp2_with fail
        go_region_with (first
          | (go_at_call 99
             refine (pickTsM (g := gg) (c := gc) (zs := [Z0, Z1, Z2]) (m := m + 70) (by have := LM.out; omega) 3 (by omega) (by first | exact HT7.out.later (Later.drew _) | exact HT7.out.later ((Later.drew _).trans (Later.alloc _ _)) | exact HT7.out.later ((Later.alloc _ _).trans (Later.drew _)))).mono ?_
             rintro e w8 ⟨i, rfl, hi, hT8, hG8⟩
             have k8 := hT8.cell (i := i) (by simpa using hi)
             have k8a := (hT8.later (Later.alloc w8 (.cells #[.int .i64 1, .int .i64 (-1), .int .i64 1000000000] 3))).cell (i := i) (by simpa using hi)
             have hiI : (i : Int) < 3 := by omega
             have hi0 : (0 : Int) ≤ (i : Int) := by omega
             have HT8 := hid hT8
             have HI8 := hid hi
             have HG8 := hid hG8
             clear hT8 hG8 hi)
          | (go_at_call 78
             refine (amongTsM (g := gg) (c := gc) (zs := [Z0, Z1, Z2]) (ys := [1, -1, 1000000000]) (m := m + 70 + 2) (by have := LM.out; omega) (by simp) (by first | exact HT8.out | exact HT8.out.later (Later.alloc _ _)) (by first | exact (LitM.new (w := w7.drew) HB7.out).grown HG8.out | exact (LitM.new (w := w7) HB7.out).grown HG8.out | exact LitM.new HT8.out.cur.ltG)).mono ?_
             rintro e w9 ⟨x, rfl, _, hT9, _⟩
             have k9 := hT9.cell (i := i) (by have := HI8.out; simpa using this)
             have f9 := hT9.frozen i
             have HT9 := hid hT9
             clear hT9))
        all_goals
          have HS := hid (fun y => storeG (k := i) (zs := [Z0, Z1, Z2]) HT9.out.cur HT9.out.own (Nat.lt_succ_self B) y)
          go_wp2_with fail
          go_ret
          exact ⟨_, [Z0, Z1, Z2].set i _, rfl, (HS.out _).2, by simp, (HS.out _).1.mono (by omega)⟩
      · have e0' : (c == 0) = false := by simp [e0]
        by_cases e1 : c = 1
        · subst e1
          clear c0 e0
          go_wp2_with (at_builtin; refine wpList_pushG (by rfl) _ _ (by rfl) (B + 1) w7 _ (.slice (some ⟨gg, 0, none⟩) 3 gc) [Z0, Z1, Z2] 1 (by rfl) HB7.out HT7.out.own (by simp) (by rfl) rfl ?_)
          intro g2 cc w8 hO8 hG8 _
          have HO8 := hid hO8
          have HC8 := hid (HT7.out.cur.besideG (Nat.lt_succ_self B) HT7.out.own.ownG hG8)
          clear hO8 hG8
          go_wp2_with fail
          go_ret
          exact ⟨_, [Z0, Z1, Z2, 1], rfl, HO8.out, by simp, HC8.out.mono (by omega)⟩
        · have e1' : (c == 1) = false := by simp [e1]
          by_cases e2 : c = 2
          · subst e2
            clear c0 e0 e1
            have kc0 : w7.cell? ⟨gg, 0, none⟩ = some (.int .i64 Z0) := HT7.out.cell (i := 0) (by simp)
            have kc2 : w7.cell? ⟨gg, 2, none⟩ = some (.int .i64 Z2) := HT7.out.cell (i := 2) (by simp)
            have f0 := HT7.out.frozen 0
            have f2 := HT7.out.frozen 2
            have HS1 := hid (storeG (k := 0) (zs := [Z0, Z1, Z2]) HT7.out.cur HT7.out.own (Nat.lt_succ_self B) Z2)
            have HS2 := hid (storeG (k := 2) (zs := [Z2, Z1, Z2]) HS1.out.1 HS1.out.2 (Nat.lt_succ_self B) Z0)
            go_wp2_with fail
            go_ret
            exact ⟨_, [Z2, Z1, Z0], rfl, HS2.out.2, by simp, HS2.out.1.mono (by omega)⟩
          · have e2' : (c == 2) = false := by simp [e2]
            go_wp2_with fail
            go_ret
            exact ⟨_, [Z0, Z1, Z2], rfl, HT7.out.own, by simp, HT7.out.cur.mono (by omega)⟩
end Go.Proofs.Ytdahhcigphhfdab
