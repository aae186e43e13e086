/- Pairs that solve an equation; jumps (the program). -/
import Derived.Test.YtdahhcigphhfdaaJpE
namespace Go.Proofs.Ytdahhcigphhfdaa
open Go.RowKit

def jpA (o : Option Jp2) : Value := .tuple #[.agg #[.int .i64 (o.getD (0, 0)).1, .int .i64 (o.getD (0, 0)).2], .bool o.isSome]
def JpAns (w : World) (o : Option Jp2) (e : Ending) (w' : World) : Prop := e = .returned (jpA o) ∧ Later w w'
def pairOk (S : Int → Int → Bool) (x y : Int) : Option Jp2 := if juN x y = true ∧ S x y = true then some (x, y) else none
theorem later2 (w : World) (a b : Obj) : Later w ((w.alloc a).alloc b) := (Later.alloc w a).trans (Later.alloc _ b)
theorem JBox.snd (w : World) (a : Obj) (x y : Int) (ty : TypeId) : JBox ((w.alloc a).alloc (.cells #[.int .i64 x, .int .i64 y] ty)) (w.heap.size + 1) x y := by
  have := JBox.new (w.alloc a) x y ty
  simpa using this
theorem JBox.fst (w : World) (b : Obj) (x y : Int) (ty : TypeId) : JBox ((w.alloc (.cells #[.int .i64 x, .int .i64 y] ty)).alloc b) w.heap.size x y := (JBox.new w x y ty).later (Later.alloc _ b)
theorem pairOk_prod (k c x y : Int) : pairOk (prodS k c) x y = if juB x y k c = true then some (x, y) else none := by
  unfold pairOk prodS juB juGd
  cases juW k c <;> cases juN x y <;> simp
theorem pairOk_N {S : Int → Int → Bool} {x y : Int} {p : Jp2} (h : pairOk S x y = some p) : p = (x, y) ∧ jpN (x, y) := by
  unfold pairOk at h
  split at h
  · rename_i hh
    injection h with h
    exact ⟨h.symm, juN_iff.1 hh.1⟩
  · cases h
section jf
variable {T : TypeId} {m : Value} {Ks Ko : FuncId} {S : Int → Int → Bool} {k : Int}
set_option maxRecDepth 20000 in
set_option maxHeartbeats 2000000 in
theorem pairOf_any (E : EqS T m Ks S) (x y : Int) (w : World) :
    Calls Try.prog 90 #[.iface T m, .int .i64 x, .int .i64 y] w fun e w' => JpAns w (pairOk S x y) e w' := by
  have HL := hid (later2 w (.cells #[.int .i64 0, .int .i64 0] 84) (.cells #[.int .i64 x, .int .i64 y] 84))
  have HB := hid (JBox.fst w (.cells #[.int .i64 x, .int .i64 y] 84) 0 0 84)
  have HC := hid (JBox.snd w (.cells #[.int .i64 0, .int .i64 0] 84) x y 84)
  cases hN : juN x y
  · have HN := hid hN
    have HA := hid (show pairOk S x y = none from if_neg (by rw [hN]; simp))
    clear hN E
    go_enter Try.func90, Try.ntmps90
    go_wp2_with (go_at_call 84; refine (areJN_as _ _ _ _ HN.out).mono ?_; rintro e w2 ⟨rfl, rfl⟩)
    generalize (w.alloc (.cells #[.int .i64 0, .int .i64 0] 84)).alloc (.cells #[.int .i64 x, .int .i64 y] 84) = w1 at HL HB HC ⊢
    obtain ⟨b0, b1, _, _⟩ := HB.out
    refine bodyPost_ret (v := jpA none) ?_ rfl ⟨by rw [HA.out], HL.out⟩
    rw [results_cell_tmp rfl]
    unfold jpA
    go_simp
  · cases hS : S x y
    · have HN := hid hN
      have HA := hid (show pairOk S x y = none from if_neg (by rw [hS]; simp))
      have hm := E.ms
      have he := E.es
      have HCC := hid (fun w0 => E.cs x y w0 hN)
      rw [hS] at HCC
      clear hN hS E
      go_enter Try.func90, Try.ntmps90
      go_wp2_with (go_at_call 84; refine (areJN_as _ _ _ _ HN.out).mono ?_; rintro e w2 ⟨rfl, rfl⟩)
      generalize (w.alloc (.cells #[.int .i64 0, .int .i64 0] 84)).alloc (.cells #[.int .i64 x, .int .i64 y] 84) = w1 at HL HB HC ⊢
      refine (HCC.out _).mono ?_
      rintro e w3 ⟨rfl, hL3⟩
      have HL3 := hid (HL.out.trans hL3)
      have HB3 := hid (HB.out.later hL3)
      have HC3 := hid (HC.out.later hL3)
      obtain ⟨b0, b1, bf0, bf1⟩ := HB3.out
      clear hL3 hm he
      go_wp2_with fail
      have HL4 := hid (setJ_later HL3.out (Nat.le_refl _) (.int .i64 0) (.int .i64 0))
      have HB4 := hid (HB3.out.set 0 0)
      generalize (w3.setCell ⟨w.heap.size, 0, none⟩ (.int .i64 0)).setCell ⟨w.heap.size, 1, none⟩ (.int .i64 0) = w4 at HL4 HB4 ⊢
      clear b0 b1 bf0 bf1
      obtain ⟨b0, b1, _, _⟩ := HB4.out
      refine bodyPost_ret (v := jpA none) ?_ rfl ⟨by rw [HA.out], HL4.out⟩
      rw [results_cell_tmp rfl]
      unfold jpA
      go_simp
    · have HN := hid hN
      have HA := hid (show pairOk S x y = some (x, y) from if_pos ⟨hN, hS⟩)
      have hm := E.ms
      have he := E.es
      have HCC := hid (fun w0 => E.cs x y w0 hN)
      rw [hS] at HCC
      clear hN hS E
      go_enter Try.func90, Try.ntmps90
      go_wp2_with (go_at_call 84; refine (areJN_as _ _ _ _ HN.out).mono ?_; rintro e w2 ⟨rfl, rfl⟩)
      generalize (w.alloc (.cells #[.int .i64 0, .int .i64 0] 84)).alloc (.cells #[.int .i64 x, .int .i64 y] 84) = w1 at HL HB HC ⊢
      refine (HCC.out _).mono ?_
      rintro e w3 ⟨rfl, hL3⟩
      have HL3 := hid (HL.out.trans hL3)
      have HB3 := hid (HB.out.later hL3)
      obtain ⟨b0, b1, bf0, bf1⟩ := HB3.out
      obtain ⟨c0, c1, _, _⟩ := HC.out.later hL3
      clear hL3 hm he
      go_wp2_with fail
      have HL4 := hid (setJ_later HL3.out (Nat.le_refl _) (.int .i64 x) (.int .i64 y))
      have HB4 := hid (HB3.out.set x y)
      generalize (w3.setCell ⟨w.heap.size, 0, none⟩ (.int .i64 x)).setCell ⟨w.heap.size, 1, none⟩ (.int .i64 y) = w4 at HL4 HB4 ⊢
      clear b0 b1 bf0 bf1 c0 c1
      obtain ⟨b0, b1, _, _⟩ := HB4.out
      refine bodyPost_ret (v := jpA (some (x, y))) ?_ rfl ⟨by rw [HA.out], HL4.out⟩
      rw [results_cell_tmp rfl]
      unfold jpA
      go_simp

set_option maxRecDepth 20000 in
set_option maxHeartbeats 2000000 in
theorem down_any (E : EqJ T m Ks Ko S k) (x y : Int) (w : World) (hN : jpN (x, y)) :
    Calls Try.prog 76 #[.agg #[.int .i64 x, .int .i64 y], .iface T m] w fun e w' => JpAns w (dnJ k (x, y)) e w' := by
  have HL := hid (later2 w (.cells #[.int .i64 x, .int .i64 y] 84) (.cells #[.int .i64 0, .int .i64 0] 84))
  have HB := hid (JBox.fst w (.cells #[.int .i64 0, .int .i64 0] 84) x y 84)
  have HC := hid (JBox.snd w (.cells #[.int .i64 x, .int .i64 y] 84) 0 0 84)
  obtain ⟨y1, y2, x2⟩ := hN
  simp only at y1 y2 x2
  have hm := E.mo
  have he := E.eo
  have HCC := hid (fun w0 => E.co x y w0 ⟨by omega, x2⟩ ⟨y1, by omega⟩)
  have HD := hid (show dnJ k (x, y) = if 0 ≤ k * y - x ∧ k * y - x < x then some (if k * y - x < y then (y, k * y - x) else (k * y - x, y)) else none from rfl)
  obtain ⟨r, hr⟩ : ∃ r, k * y - x = r := ⟨_, rfl⟩
  rw [hr] at HCC HD
  clear hr E
  by_cases h0 : r < 0
  · have HA := hid (show dnJ k (x, y) = none by rw [HD.out, if_neg (by omega)])
    clear HD
    go_enter Try.func76, Try.ntmps76
    go_upto_region 1 with fail
    generalize (w.alloc (.cells #[.int .i64 x, .int .i64 y] 84)).alloc (.cells #[.int .i64 0, .int .i64 0] 84) = w1 at HL HB HC ⊢
    obtain ⟨b0, b1, _, _⟩ := HB.out
    go_wp2_with fail
    refine (HCC.out _).mono ?_
    rintro e w3 ⟨rfl, hL3⟩
    have HL3 := hid (HL.out.trans hL3)
    have HC3 := hid (HC.out.later hL3)
    obtain ⟨c0, c1, cf0, cf1⟩ := HC3.out
    clear b0 b1
    obtain ⟨b0, b1, _, _⟩ := HB.out.later hL3
    clear hL3 hm he
    go_wp2_with fail
    have HL4 := hid (setJ_later (b := w.heap.size + 1) HL3.out (by omega) (.int .i64 (0)) (.int .i64 (0)))
    have HC4 := hid (HC3.out.set (0) (0))
    generalize (w3.setCell ⟨w.heap.size + 1, 0, none⟩ (.int .i64 (0))).setCell ⟨w.heap.size + 1, 1, none⟩ (.int .i64 (0)) = w4 at HL4 HC4 ⊢
    clear c0 c1 cf0 cf1
    obtain ⟨c0, c1, _, _⟩ := HC4.out
    refine bodyPost_ret (v := jpA none) ?_ rfl ⟨by rw [HA.out], HL4.out⟩
    rw [results_cell_tmp rfl]
    unfold jpA
    go_simp
  · by_cases h1 : r < x
    · by_cases h2 : r < y
      · have HA := hid (show dnJ k (x, y) = some (y, r) by rw [HD.out, if_pos (by omega), if_pos h2])
        clear HD
        go_enter Try.func76, Try.ntmps76
        go_upto_region 1 with fail
        generalize (w.alloc (.cells #[.int .i64 x, .int .i64 y] 84)).alloc (.cells #[.int .i64 0, .int .i64 0] 84) = w1 at HL HB HC ⊢
        obtain ⟨b0, b1, _, _⟩ := HB.out
        go_wp2_with fail
        refine (HCC.out _).mono ?_
        rintro e w3 ⟨rfl, hL3⟩
        have HL3 := hid (HL.out.trans hL3)
        have HC3 := hid (HC.out.later hL3)
        obtain ⟨c0, c1, cf0, cf1⟩ := HC3.out
        clear b0 b1
        obtain ⟨b0, b1, _, _⟩ := HB.out.later hL3
        clear hL3 hm he
        go_wp2_with fail
        have HL4 := hid (setJ_later (b := w.heap.size + 1) HL3.out (by omega) (.int .i64 (y)) (.int .i64 (r)))
        have HC4 := hid (HC3.out.set (y) (r))
        generalize (w3.setCell ⟨w.heap.size + 1, 0, none⟩ (.int .i64 (y))).setCell ⟨w.heap.size + 1, 1, none⟩ (.int .i64 (r)) = w4 at HL4 HC4 ⊢
        clear c0 c1 cf0 cf1
        obtain ⟨c0, c1, _, _⟩ := HC4.out
        refine bodyPost_ret (v := jpA (some (y, r))) ?_ rfl ⟨by rw [HA.out], HL4.out⟩
        rw [results_cell_tmp rfl]
        unfold jpA
        go_simp
      · by_cases h4 : r = y
        · have HA := hid (show dnJ k (x, y) = some (y, y) by rw [HD.out, if_pos (by omega), if_neg h2, h4])
          have h5 := h4.symm
          subst h5
          clear HD
          go_enter Try.func76, Try.ntmps76
          go_upto_region 1 with fail
          generalize (w.alloc (.cells #[.int .i64 x, .int .i64 y] 84)).alloc (.cells #[.int .i64 0, .int .i64 0] 84) = w1 at HL HB HC ⊢
          obtain ⟨b0, b1, _, _⟩ := HB.out
          go_wp2_with fail
          refine (HCC.out _).mono ?_
          rintro e w3 ⟨rfl, hL3⟩
          have HL3 := hid (HL.out.trans hL3)
          have HC3 := hid (HC.out.later hL3)
          obtain ⟨c0, c1, cf0, cf1⟩ := HC3.out
          clear b0 b1
          obtain ⟨b0, b1, _, _⟩ := HB.out.later hL3
          clear hL3 hm he
          go_wp2_with fail
          have HL4 := hid (setJ_later (b := w.heap.size + 1) HL3.out (by omega) (.int .i64 (y)) (.int .i64 (y)))
          have HC4 := hid (HC3.out.set (y) (y))
          generalize (w3.setCell ⟨w.heap.size + 1, 0, none⟩ (.int .i64 (y))).setCell ⟨w.heap.size + 1, 1, none⟩ (.int .i64 (y)) = w4 at HL4 HC4 ⊢
          clear c0 c1 cf0 cf1
          obtain ⟨c0, c1, _, _⟩ := HC4.out
          refine bodyPost_ret (v := jpA (some (y, y))) ?_ rfl ⟨by rw [HA.out], HL4.out⟩
          rw [results_cell_tmp rfl]
          unfold jpA
          go_simp
        have HA := hid (show dnJ k (x, y) = some (r, y) by rw [HD.out, if_pos (by omega), if_neg h2])
        clear HD
        have h3 : ¬ r ≤ y := by omega
        go_enter Try.func76, Try.ntmps76
        go_upto_region 1 with fail
        generalize (w.alloc (.cells #[.int .i64 x, .int .i64 y] 84)).alloc (.cells #[.int .i64 0, .int .i64 0] 84) = w1 at HL HB HC ⊢
        obtain ⟨b0, b1, _, _⟩ := HB.out
        go_wp2_with fail
        refine (HCC.out _).mono ?_
        rintro e w3 ⟨rfl, hL3⟩
        have HL3 := hid (HL.out.trans hL3)
        have HC3 := hid (HC.out.later hL3)
        obtain ⟨c0, c1, cf0, cf1⟩ := HC3.out
        clear b0 b1
        obtain ⟨b0, b1, _, _⟩ := HB.out.later hL3
        clear hL3 hm he
        go_wp2_with fail
        have HL4 := hid (setJ_later (b := w.heap.size + 1) HL3.out (by omega) (.int .i64 (r)) (.int .i64 (y)))
        have HC4 := hid (HC3.out.set (r) (y))
        generalize (w3.setCell ⟨w.heap.size + 1, 0, none⟩ (.int .i64 (r))).setCell ⟨w.heap.size + 1, 1, none⟩ (.int .i64 (y)) = w4 at HL4 HC4 ⊢
        clear c0 c1 cf0 cf1
        obtain ⟨c0, c1, _, _⟩ := HC4.out
        refine bodyPost_ret (v := jpA (some (r, y))) ?_ rfl ⟨by rw [HA.out], HL4.out⟩
        rw [results_cell_tmp rfl]
        unfold jpA
        go_simp
    · have HA := hid (show dnJ k (x, y) = none by rw [HD.out, if_neg (by omega)])
      clear HD
      go_enter Try.func76, Try.ntmps76
      go_upto_region 1 with fail
      generalize (w.alloc (.cells #[.int .i64 x, .int .i64 y] 84)).alloc (.cells #[.int .i64 0, .int .i64 0] 84) = w1 at HL HB HC ⊢
      obtain ⟨b0, b1, _, _⟩ := HB.out
      go_wp2_with fail
      refine (HCC.out _).mono ?_
      rintro e w3 ⟨rfl, hL3⟩
      have HL3 := hid (HL.out.trans hL3)
      have HC3 := hid (HC.out.later hL3)
      obtain ⟨c0, c1, cf0, cf1⟩ := HC3.out
      clear b0 b1
      obtain ⟨b0, b1, _, _⟩ := HB.out.later hL3
      clear hL3 hm he
      go_wp2_with fail
      have HL4 := hid (setJ_later (b := w.heap.size + 1) HL3.out (by omega) (.int .i64 (0)) (.int .i64 (0)))
      have HC4 := hid (HC3.out.set (0) (0))
      generalize (w3.setCell ⟨w.heap.size + 1, 0, none⟩ (.int .i64 (0))).setCell ⟨w.heap.size + 1, 1, none⟩ (.int .i64 (0)) = w4 at HL4 HC4 ⊢
      clear c0 c1 cf0 cf1
      obtain ⟨c0, c1, _, _⟩ := HC4.out
      refine bodyPost_ret (v := jpA none) ?_ rfl ⟨by rw [HA.out], HL4.out⟩
      rw [results_cell_tmp rfl]
      unfold jpA
      go_simp
end jf
end Go.Proofs.Ytdahhcigphhfdaa
