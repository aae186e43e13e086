/- Right triples in the model: words. -/
import Derived.Test.YtdahhcigphhfdacRiC
import Derived.Test.YtdahhcigphhfdacRowsKI
import Derived.Test.YtdahhcigphhfdacRiW
import Derived.Deep.AppendLies
namespace Go.Proofs.Ytdahhcigphhfdac
open Go.RowKit

theorem Ints.newsR {w : World} {ad : Addr} {n c : Nat} {zs : List Int} (h : Ints w (.slice (some ad) n c) zs) : ∀ j u, (zs.map (Value.int .i64))[j]? = some u → w.cell? (ad.add j) = some u := by
  intro j u hj
  obtain ⟨a, cap, hv, _, hc⟩ := h
  simp only [Value.slice.injEq] at hv
  obtain ⟨rfl, _, rfl⟩ := hv
  have hlt : j < zs.length := by
    rcases Nat.lt_or_ge j zs.length with h | h
    · exact h
    · rw [List.getElem?_eq_none (by simpa using h)] at hj; cases hj
  obtain ⟨ad2, e, hx⟩ := hc j hlt
  simp only [Option.some.injEq] at e
  subst e
  rw [hx]
  simp [hlt] at hj ⊢
  exact hj

set_option maxHeartbeats 4000000 in
theorem specBergWord_any (v : Value) (zs : List Int) (w : World) (h : Ints w v zs) :
    Calls Try.prog 53 #[v] w fun e w' => IntsAns w (wordAns bergU zs) e w' := by
  have H := hid h
  obtain ⟨i0, hi, hz0, hz1, hz2⟩ := info_parts Try.infoInt
  cases hr : rightP zs with
  | none =>
    have HG := hid (riGood_as v zs false (by rw [hr]; rfl) w h)
    have HA := hid (show wordAns bergU zs = none by unfold wordAns; rw [hr]; rfl)
    clear hr h
    go_enter Try.func53, Try.ntmps53
    go_wp2_with (go_at_call 67; refine HG.out.mono ?_; rintro e w1 ⟨rfl, hL⟩; have HL1 := hid hL; clear hL)
    go_ret2
    rw [HA.out]
    exact ⟨_, rfl, ⟨World.ownsRow_nil _ _ _ _, fun b hb => by simp [Value.ownBlock] at hb⟩, HL1.out⟩
  | some p =>
    obtain ⟨m, n⟩ := p
    have HG := hid (riGood_as v zs true (by rw [hr]; rfl) w h)
    have HP := hid (right_some hr).1
    have HB := hid (fun w0 h0 => riBack_right hr v w0 h0)
    have HA := hid (show wordAns bergU zs = some (riwL bergU m n).reverse by unfold wordAns; rw [hr]; rfl)
    have HWL := hid (show (riwL bergU m n).length ≤ 31622 by have := riwF_len bergU m.toNat m n; have := HP.out.h7; unfold riwL; omega)
    obtain ⟨W, hW⟩ : ∃ W, riwL bergU m n = W := ⟨_, rfl⟩
    rw [hW] at HA HWL
    have HW := hid hW
    clear hr h hW
    go_enter Try.func53, Try.ntmps53
    go_wp2_with (first | (go_at_call 67; refine HG.out.mono ?_; rintro e w1 ⟨rfl, hL⟩; have HL1 := hid hL; clear hL) | (go_at_call 68; refine (HB.out _ (H.out.later HL1.out)).mono ?_; rintro e w2 ⟨rfl, hL⟩; have HL2 := hid (HL1.out.trans hL); clear hL))
    go_loopw [4, 5, 6] (fun o4 o5 o6 wr => ∃ (pre : List Int) (x y : Int), o5 = .int .i64 x ∧ o6 = .int .i64 y ∧ Pair x y ∧ pre ++ riwL bergU x y = W ∧ OwnInts w.heap.size wr.heap.size wr o4 pre.reverse ∧ Later w wr ∧ (pre = [] → o4 = .slice none 0 0)) (fun _ o5 _ _ => (intOf o5).toNat)
    case atStart => exact ⟨[], m, n, rfl, rfl, HP.out, HW.out, ⟨World.ownsRow_nil _ _ _ _, fun b hb => by simp [Value.ownBlock] at hb⟩, HL2.out, fun _ => rfl⟩
    case round =>
      obtain ⟨pre, x, y, rfl, rfl, hpx, hWx, hO, hL, hnil⟩ := hrel
      have HPX := hid hpx
      have HO := hid hO
      have HL := hid hL
      have h7 := hpx.h7
      have h1 := hpx.h1
      have h2 := hpx.h2
      by_cases hx : 2 < x
      · have hst := treeBerg.riwL_step hpx hx
        obtain ⟨u1, _, u3⟩ := treeBerg.up x y hpx hx
        have HU := hid (fun w0 => riBergUp_any x y w0 hpx)
        obtain ⟨x', hx'⟩ : ∃ q, (bergU x y).1 = q := ⟨_, rfl⟩
        obtain ⟨y', hy'⟩ : ∃ q, (bergU x y).2.1 = q := ⟨_, rfl⟩
        obtain ⟨k, hk⟩ : ∃ q, (bergU x y).2.2 = q := ⟨_, rfl⟩
        rw [hx', hy', hk] at hst HU
        rw [hx', hy'] at u1
        rw [hx'] at u3
        rw [hst] at hWx
        have HU1 := hid u1
        have HW2 := hid (show (pre ++ [k]) ++ riwL bergU x' y' = W by rw [List.append_assoc]; exact hWx)
        have hlen : pre.length ≤ 31622 := by have := HWL.out; have := congrArg List.length hWx; rw [List.length_append] at this; omega
        have HU3 := hid u3
        have hx1 := u1.h1
        have hx2 := u1.h2
        clear hst hWx hO hL hpx hx' hy' hk u1 u3
        rcases hO2 : HO.out.form with ⟨hv0, hz⟩ | ⟨g, cap, hv0⟩
        · have hpre : pre = [] := by simpa using hz
          subst hpre
          subst hv0
          clear hO2
          have hown := World.ownsRow_lit (e := 3) (size := 1) wr #[.int .i64 k] 1 (Nat.le_refl _) (by unfold maxLen; omega) (by simp)
          have hAl := Later.alloc wr (.cells #[.int .i64 k] 3)
          have HO2 : Hid (OwnInts w.heap.size (wr.alloc (.cells #[.int .i64 k] 3)).heap.size (wr.alloc (.cells #[.int .i64 k] 3)) (.slice (some ⟨wr.heap.size, 0, none⟩) 1 1) ([] ++ [k]).reverse) := hid ⟨ownsRow_base (by simpa using hown) HL.out.size, fun b hb => by simp [Value.ownBlock] at hb; simp; omega⟩
          have HL2 := hid (HL.out.trans hAl)
          clear hown hAl
          go_wp2_with (go_at_call 92; refine (HU.out _).mono ?_; rintro e w3 ⟨rfl, rfl⟩)
          exact ⟨⟨[k], x', y', rfl, rfl, HU1.out, HW2.out, HO2.out, HL2.out, fun h => by cases h⟩, by have := HU3.out; simp [intOf]; omega⟩
        · subst hv0
          have hpos : 0 < pre.length := by
            rcases Nat.eq_zero_or_pos pre.length with h0 | h0
            · have := hnil (List.length_eq_zero_iff.1 h0); simp at this
            · exact h0
          clear hO2 hnil
          have hplen : pre.reverse.length = pre.length := List.length_reverse
          rw [hplen] at *
          have hown := World.ownsRow_lit (e := 3) (size := 1) wr #[.int .i64 k] 1 (Nat.le_refl _) (by unfold maxLen; omega) (by simp)
          have hAl := Later.alloc wr (.cells #[.int .i64 k] 3)
          have HOW := hid (show (wr.alloc (.cells #[.int .i64 k] 3)).ownsRow w.heap.size 3 1 (.slice (some ⟨wr.heap.size, 0, none⟩) 1 1) 1 [.int .i64 k] from ownsRow_base (by simpa using hown) HL.out.size)
          have HNW := hid (HO.out.ints.later hAl)
          have HLA := hid (HL.out.trans hAl)
          have hLs := HL.out.size
          clear hown hAl
          go_wp2_with (first | (go_at_call 92; refine (HU.out _).mono ?_; rintro e w3 ⟨rfl, rfl⟩) | (at_builtin; refine wpList_append_lies _ (by rfl) _ _ _ (by rfl) w.heap.size 3 i0 (.int .i64 0) 1 8 Try.underlying26 hi hz0 hz1 hz2 rfl (by omega) _ 1 [.int .i64 k] (by rfl) (by exact HOW.out) ⟨g, 0, none⟩ pre.length cap (pre.reverse.map (Value.int .i64)) (by rfl) (by simp) (Ints.newsR HNW.out) (by simp [Value.oneCell']) (by omega) (by unfold maxLen; omega) (by omega) (by simp; omega) (wr.heap.size + 1) (by simp) ?_; intro g1 cap1 w9 hown9 hgrow hgn hglt; have HO9 := hid hown9; have HG9 := hid hgrow; have HGL := hid hglt; clear hown9 hgrow hgn hglt))
          have HL9 := hid (show Later w w9 from HLA.out.grown HG9.out (by simp; omega) (fun b' hb' => (HOW.out.lt b' hb').1))
          have HI9 : Hid (OwnInts w.heap.size w9.heap.size w9 (.slice (some ⟨g1, 0, none⟩) (1 + pre.length) cap1) (pre ++ [k]).reverse) := hid (OwnInts.ofH HO9.out (by simp))
          go_roundw
          case rel => exact ⟨pre ++ [k], x', y', rfl, rfl, HU1.out, HW2.out, HI9.out, HL9.out, fun h => by simp at h⟩
          case measure => have := HU3.out; simp [intOf]; omega
      · have hWx2 : pre = W := by rw [riwL_root x y (by omega), List.append_nil] at hWx; exact hWx
        subst hWx2
        clear hO hL hpx hWx
        go_wp2_with fail
        go_ret2
        rw [HA.out]
        exact ⟨_, rfl, HO.out, HL.out⟩

set_option maxHeartbeats 4000000 in
theorem specPriceWord_any (v : Value) (zs : List Int) (w : World) (h : Ints w v zs) :
    Calls Try.prog 52 #[v] w fun e w' => IntsAns w (wordAns priceU zs) e w' := by
  have H := hid h
  obtain ⟨i0, hi, hz0, hz1, hz2⟩ := info_parts Try.infoInt
  cases hr : rightP zs with
  | none =>
    have HG := hid (riGood_as v zs false (by rw [hr]; rfl) w h)
    have HA := hid (show wordAns priceU zs = none by unfold wordAns; rw [hr]; rfl)
    clear hr h
    go_enter Try.func52, Try.ntmps52
    go_wp2_with (go_at_call 67; refine HG.out.mono ?_; rintro e w1 ⟨rfl, hL⟩; have HL1 := hid hL; clear hL)
    go_ret2
    rw [HA.out]
    exact ⟨_, rfl, ⟨World.ownsRow_nil _ _ _ _, fun b hb => by simp [Value.ownBlock] at hb⟩, HL1.out⟩
  | some p =>
    obtain ⟨m, n⟩ := p
    have HG := hid (riGood_as v zs true (by rw [hr]; rfl) w h)
    have HP := hid (right_some hr).1
    have HB := hid (fun w0 h0 => riBack_right hr v w0 h0)
    have HA := hid (show wordAns priceU zs = some (riwL priceU m n).reverse by unfold wordAns; rw [hr]; rfl)
    have HWL := hid (show (riwL priceU m n).length ≤ 31622 by have := riwF_len priceU m.toNat m n; have := HP.out.h7; unfold riwL; omega)
    obtain ⟨W, hW⟩ : ∃ W, riwL priceU m n = W := ⟨_, rfl⟩
    rw [hW] at HA HWL
    have HW := hid hW
    clear hr h hW
    go_enter Try.func52, Try.ntmps52
    go_wp2_with (first | (go_at_call 67; refine HG.out.mono ?_; rintro e w1 ⟨rfl, hL⟩; have HL1 := hid hL; clear hL) | (go_at_call 68; refine (HB.out _ (H.out.later HL1.out)).mono ?_; rintro e w2 ⟨rfl, hL⟩; have HL2 := hid (HL1.out.trans hL); clear hL))
    go_loopw [4, 5, 6] (fun o4 o5 o6 wr => ∃ (pre : List Int) (x y : Int), o5 = .int .i64 x ∧ o6 = .int .i64 y ∧ Pair x y ∧ pre ++ riwL priceU x y = W ∧ OwnInts w.heap.size wr.heap.size wr o4 pre.reverse ∧ Later w wr ∧ (pre = [] → o4 = .slice none 0 0)) (fun _ o5 _ _ => (intOf o5).toNat)
    case atStart => exact ⟨[], m, n, rfl, rfl, HP.out, HW.out, ⟨World.ownsRow_nil _ _ _ _, fun b hb => by simp [Value.ownBlock] at hb⟩, HL2.out, fun _ => rfl⟩
    case round =>
      obtain ⟨pre, x, y, rfl, rfl, hpx, hWx, hO, hL, hnil⟩ := hrel
      have HPX := hid hpx
      have HO := hid hO
      have HL := hid hL
      have h7 := hpx.h7
      have h1 := hpx.h1
      have h2 := hpx.h2
      by_cases hx : 2 < x
      · have hst := treePrice.riwL_step hpx hx
        obtain ⟨u1, _, u3⟩ := treePrice.up x y hpx hx
        have HU := hid (fun w0 => riPriceUp_any x y w0 hpx)
        obtain ⟨x', hx'⟩ : ∃ q, (priceU x y).1 = q := ⟨_, rfl⟩
        obtain ⟨y', hy'⟩ : ∃ q, (priceU x y).2.1 = q := ⟨_, rfl⟩
        obtain ⟨k, hk⟩ : ∃ q, (priceU x y).2.2 = q := ⟨_, rfl⟩
        rw [hx', hy', hk] at hst HU
        rw [hx', hy'] at u1
        rw [hx'] at u3
        rw [hst] at hWx
        have HU1 := hid u1
        have HW2 := hid (show (pre ++ [k]) ++ riwL priceU x' y' = W by rw [List.append_assoc]; exact hWx)
        have hlen : pre.length ≤ 31622 := by have := HWL.out; have := congrArg List.length hWx; rw [List.length_append] at this; omega
        have HU3 := hid u3
        have hx1 := u1.h1
        have hx2 := u1.h2
        clear hst hWx hO hL hpx hx' hy' hk u1 u3
        rcases hO2 : HO.out.form with ⟨hv0, hz⟩ | ⟨g, cap, hv0⟩
        · have hpre : pre = [] := by simpa using hz
          subst hpre
          subst hv0
          clear hO2
          have hown := World.ownsRow_lit (e := 3) (size := 1) wr #[.int .i64 k] 1 (Nat.le_refl _) (by unfold maxLen; omega) (by simp)
          have hAl := Later.alloc wr (.cells #[.int .i64 k] 3)
          have HO2 : Hid (OwnInts w.heap.size (wr.alloc (.cells #[.int .i64 k] 3)).heap.size (wr.alloc (.cells #[.int .i64 k] 3)) (.slice (some ⟨wr.heap.size, 0, none⟩) 1 1) ([] ++ [k]).reverse) := hid ⟨ownsRow_base (by simpa using hown) HL.out.size, fun b hb => by simp [Value.ownBlock] at hb; simp; omega⟩
          have HL2 := hid (HL.out.trans hAl)
          clear hown hAl
          go_wp2_with (go_at_call 97; refine (HU.out _).mono ?_; rintro e w3 ⟨rfl, rfl⟩)
          exact ⟨⟨[k], x', y', rfl, rfl, HU1.out, HW2.out, HO2.out, HL2.out, fun h => by cases h⟩, by have := HU3.out; simp [intOf]; omega⟩
        · subst hv0
          have hpos : 0 < pre.length := by
            rcases Nat.eq_zero_or_pos pre.length with h0 | h0
            · have := hnil (List.length_eq_zero_iff.1 h0); simp at this
            · exact h0
          clear hO2 hnil
          have hplen : pre.reverse.length = pre.length := List.length_reverse
          rw [hplen] at *
          have hown := World.ownsRow_lit (e := 3) (size := 1) wr #[.int .i64 k] 1 (Nat.le_refl _) (by unfold maxLen; omega) (by simp)
          have hAl := Later.alloc wr (.cells #[.int .i64 k] 3)
          have HOW := hid (show (wr.alloc (.cells #[.int .i64 k] 3)).ownsRow w.heap.size 3 1 (.slice (some ⟨wr.heap.size, 0, none⟩) 1 1) 1 [.int .i64 k] from ownsRow_base (by simpa using hown) HL.out.size)
          have HNW := hid (HO.out.ints.later hAl)
          have HLA := hid (HL.out.trans hAl)
          have hLs := HL.out.size
          clear hown hAl
          go_wp2_with (first | (go_at_call 97; refine (HU.out _).mono ?_; rintro e w3 ⟨rfl, rfl⟩) | (at_builtin; refine wpList_append_lies _ (by rfl) _ _ _ (by rfl) w.heap.size 3 i0 (.int .i64 0) 1 8 Try.underlying26 hi hz0 hz1 hz2 rfl (by omega) _ 1 [.int .i64 k] (by rfl) (by exact HOW.out) ⟨g, 0, none⟩ pre.length cap (pre.reverse.map (Value.int .i64)) (by rfl) (by simp) (Ints.newsR HNW.out) (by simp [Value.oneCell']) (by omega) (by unfold maxLen; omega) (by omega) (by simp; omega) (wr.heap.size + 1) (by simp) ?_; intro g1 cap1 w9 hown9 hgrow hgn hglt; have HO9 := hid hown9; have HG9 := hid hgrow; have HGL := hid hglt; clear hown9 hgrow hgn hglt))
          have HL9 := hid (show Later w w9 from HLA.out.grown HG9.out (by simp; omega) (fun b' hb' => (HOW.out.lt b' hb').1))
          have HI9 : Hid (OwnInts w.heap.size w9.heap.size w9 (.slice (some ⟨g1, 0, none⟩) (1 + pre.length) cap1) (pre ++ [k]).reverse) := hid (OwnInts.ofH HO9.out (by simp))
          go_roundw
          case rel => exact ⟨pre ++ [k], x', y', rfl, rfl, HU1.out, HW2.out, HI9.out, HL9.out, fun h => by simp at h⟩
          case measure => have := HU3.out; simp [intOf]; omega
      · have hWx2 : pre = W := by rw [riwL_root x y (by omega), List.append_nil] at hWx; exact hWx
        subst hWx2
        clear hO hL hpx hWx
        go_wp2_with fail
        go_ret2
        rw [HA.out]
        exact ⟨_, rfl, HO.out, HL.out⟩
end Go.Proofs.Ytdahhcigphhfdac
