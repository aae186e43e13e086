/- Products of lists of squares: what is answered; the model's checks. -/
import Derived.Test.YtofmmegpadojlaaSqB
import Derived.Test.YtofmmegpadojlaaBasA
import Derived.Test.YtofmmegpadojlaaBasB
import Derived.StillTailTactics
import Derived.Deep.RegionHeld3
namespace Go.Proofs.Ytofmmegpadojlaa
open Go.RowKit

def partsB (k : Nat) (zs : List Int) : Bool := decide (zs.length = k) && zs.all (within (-10000) 10000)
def mul2L (a b : List Int) : List Int := [a.getD 0 0 * b.getD 0 0 - a.getD 1 0 * b.getD 1 0, a.getD 0 0 * b.getD 1 0 + a.getD 1 0 * b.getD 0 0]
def q4 (a : List Int) : Sq.Q4 := ⟨a.getD 0 0, a.getD 1 0, a.getD 2 0, a.getD 3 0⟩
def l4 (q : Sq.Q4) : List Int := [q.a, q.b, q.c, q.d]
def mul4L (a b : List Int) : List Int := l4 (Sq.mul4 (q4 a) (q4 b))
def mulTwoAns (a b : List Int) : Option (List Int) := if partsB 2 a = true ∧ partsB 2 b = true then some (mul2L a b) else none
def mulFourAns (a b : List Int) : Option (List Int) := if partsB 4 a = true ∧ partsB 4 b = true then some (mul4L a b) else none
def In4 (x : Int) : Prop := -10000 ≤ x ∧ x ≤ 10000
def In6 (x : Int) : Prop := -2000000 ≤ x ∧ x ≤ 2000000
theorem In4.six {x : Int} (h : In4 x) : In6 x := by obtain ⟨h1, h2⟩ := h; exact ⟨by omega, by omega⟩
theorem partsB_2 {zs : List Int} (h : partsB 2 zs = true) : ∃ a b, zs = [a, b] ∧ In4 a ∧ In4 b := by
  unfold partsB at h
  rw [Bool.and_eq_true, decide_eq_true_eq] at h
  obtain ⟨h1, h2⟩ := h
  match zs, h1 with
  | [a, b], _ =>
    simp [within] at h2
    exact ⟨a, b, rfl, h2.1, h2.2⟩
theorem partsB_4 {zs : List Int} (h : partsB 4 zs = true) : ∃ a b c d, zs = [a, b, c, d] ∧ In4 a ∧ In4 b ∧ In4 c ∧ In4 d := by
  unfold partsB at h
  rw [Bool.and_eq_true, decide_eq_true_eq] at h
  obtain ⟨h1, h2⟩ := h
  match zs, h1 with
  | [a, b, c, d], _ =>
    simp [within] at h2
    exact ⟨a, b, c, d, rfl, h2.1, h2.2.1, h2.2.2.1, h2.2.2.2⟩
theorem mulBd {x y B C : Int} (hx : -B ≤ x ∧ x ≤ B) (hy : -C ≤ y ∧ y ≤ C) (_hB : 0 ≤ B) : -(B * C) ≤ x * y ∧ x * y ≤ B * C := by
  have hC : 0 ≤ C := by omega
  constructor
  · have h1 := Int.mul_nonneg (show 0 ≤ B + x by omega) (show 0 ≤ C + y by omega)
    have h2 := Int.mul_nonneg (show 0 ≤ B - x by omega) (show 0 ≤ C - y by omega)
    grind
  · have h1 := Int.mul_nonneg (show 0 ≤ B + x by omega) (show 0 ≤ C - y by omega)
    have h2 := Int.mul_nonneg (show 0 ≤ B - x by omega) (show 0 ≤ C + y by omega)
    grind
set_option maxHeartbeats 1000000 in
theorem sqParts_any (v : Value) (zs : List Int) (k : Nat) (w : World) (_hk : k ≤ 4) (h : Ints w v zs) :
    Calls Try.prog 81 #[v, .int .i64 k] w fun e w' => e = .returned (.bool (partsB k zs)) ∧ w = w' := by
  obtain ⟨a, cap, rfl, hl, _⟩ := id h
  have H := hid h
  clear h
  by_cases hlen : zs.length = k
  · have hb : ((zs.length : Int) == (k : Int)) = true := by simp [hlen]
    have HA := hid (show zs.all (within (-10000) 10000) = partsB k zs by unfold partsB; rw [decide_eq_true hlen]; rfl)
    clear hlen
    go_enter Try.func81, Try.ntmps81
    go_wp2_with (go_at_call 122; refine (l1All_as _ zs _ _ _ _ HA.out H.out).mono ?_; rintro e w2 ⟨rfl, rfl⟩)
    go_ret
    exact ⟨rfl, rfl⟩
  · have hb : ((zs.length : Int) == (k : Int)) = false := by simp; omega
    have HA := hid (show partsB k zs = false by unfold partsB; rw [decide_eq_false hlen]; rfl)
    clear hlen
    go_enter Try.func81, Try.ntmps81
    go_wp2_with fail
    go_ret
    exact ⟨by rw [HA.out]; rfl, rfl⟩
theorem sqParts_as (v : Value) (zs : List Int) (k : Nat) (b : Bool) (w : World) (hk : k ≤ 4) (hb : partsB k zs = b) (h : Ints w v zs) :
    Calls Try.prog 81 #[v, .int .i64 k] w fun e w' => e = .returned (.bool b) ∧ w = w' := by
  subst hb; exact sqParts_any v zs k w hk h
theorem litB (w : World) (zs : List Int) (hl : zs.length ≤ 1000) (n : Nat) (hn : n = zs.length) (cs : Array Value) (hc : cs = (zs.map (Value.int .i64)).toArray) : OwnInts w.heap.size (w.alloc (.cells cs 3)).heap.size (w.alloc (.cells cs 3)) (.slice (some ⟨w.heap.size, 0, none⟩) n n) zs := by
  subst hn hc
  have h := World.ownsRow_lit (e := 3) (size := 1) w (zs.map (Value.int .i64)).toArray zs.length (Nat.le_refl _) (by unfold maxLen; omega) (by simp)
  refine ⟨by simpa using h, fun b hb => by simp [Value.ownBlock] at hb ⊢; omega⟩
theorem Ints.at2 {w : World} {v : Value} {x y : Int} (h : Ints w v [x, y]) : ∃ ad cap, v = .slice (some ad) 2 cap ∧ w.cell? ad = some (.int .i64 x) ∧ w.cell? ⟨ad.block, ad.off + 1, none⟩ = some (.int .i64 y) := by
  obtain ⟨a, cap, rfl, _, hc⟩ := h
  obtain ⟨ad, rfl, h0⟩ := hc 0 (by simp)
  obtain ⟨ad2, e, h1⟩ := hc 1 (by simp)
  cases e
  exact ⟨ad, cap, rfl, by simpa [Addr.add] using h0, by simpa [Addr.add] using h1⟩
set_option maxRecDepth 20000 in
set_option maxHeartbeats 4000000 in
theorem specMultiplyTwo_any (v0 : Value) (z0 : List Int) (v1 : Value) (z1 : List Int) (w : World) (h0 : Ints w v0 z0) (h1 : Ints w v1 z1) :
    Calls Try.prog 40 #[v0, v1] w fun e w' => IntsAns w (mulTwoAns z0 z1) e w' := by
  have H0 := hid h0
  have H1 := hid h1
  cases hp0 : partsB 2 z0
  · have HP0 := hid hp0
    have HA := hid (show mulTwoAns z0 z1 = none by unfold mulTwoAns; rw [if_neg (by rw [hp0]; simp)])
    clear h0 h1 hp0
    go_enter Try.func40, Try.ntmps40
    go_wp2_with (go_at_call 81; refine (sqParts_as _ z0 2 _ _ (by omega) HP0.out H0.out).mono ?_; rintro e w2 ⟨rfl, rfl⟩)
    go_ret2
    exact ⟨_, by rw [HA.out]; rfl, by rw [HA.out]; exact ⟨World.ownsRow_nil _ _ _ _, fun b hb => by simp [Value.ownBlock] at hb⟩, Later.refl _⟩
  · cases hp1 : partsB 2 z1
    · have HP0 := hid hp0
      have HP1 := hid hp1
      have HA := hid (show mulTwoAns z0 z1 = none by unfold mulTwoAns; rw [if_neg (by rw [hp1]; simp)])
      clear h0 h1 hp0 hp1
      go_enter Try.func40, Try.ntmps40
      go_wp2_with (first | (go_at_call 81; refine (sqParts_as _ z0 2 _ _ (by omega) HP0.out H0.out).mono ?_; rintro e w2 ⟨rfl, rfl⟩; clear HP0) | (go_at_call 81; refine (sqParts_as _ z1 2 _ _ (by omega) HP1.out H1.out).mono ?_; rintro e w3 ⟨rfl, rfl⟩))
      go_ret2
      exact ⟨_, by rw [HA.out]; rfl, by rw [HA.out]; exact ⟨World.ownsRow_nil _ _ _ _, fun b hb => by simp [Value.ownBlock] at hb⟩, Later.refl _⟩
    · have HP0 := hid hp0
      have HP1 := hid hp1
      have HA := hid (show mulTwoAns z0 z1 = some (mul2L z0 z1) from if_pos ⟨hp0, hp1⟩)
      obtain ⟨a, b, rfl, ha, hb⟩ := partsB_2 hp0
      obtain ⟨c, d, rfl, hc, hd⟩ := partsB_2 hp1
      obtain ⟨ad, ca, rfl, c0, c1⟩ := h0.at2
      obtain ⟨bd, cb, rfl, d0, d1⟩ := h1.at2
      have m1 := mulBd ha hc (by omega)
      have m2 := mulBd hb hd (by omega)
      have m3 := mulBd ha hd (by omega)
      have m4 := mulBd hb hc (by omega)
      clear h0 h1 hp0 hp1
      go_enter Try.func40, Try.ntmps40
      go_wp2_with (first | (go_at_call 81; refine (sqParts_as _ [a, b] 2 _ _ (by omega) HP0.out H0.out).mono ?_; rintro e w2 ⟨rfl, rfl⟩; clear HP0) | (go_at_call 81; refine (sqParts_as _ [c, d] 2 _ _ (by omega) HP1.out H1.out).mono ?_; rintro e w3 ⟨rfl, rfl⟩))
      have HLW := hid (Later.drew w)
      go_still_tail 30, (by kernel_rfl)
      change wpList _ _ _ _ _ w.drew
      generalize w.drew = wd at *
      go_wp2_with fail
      go_ret2
      rw [HA.out]
      refine ⟨_, rfl, ?_, HLW.out.trans (Later.alloc _ _)⟩
      exact (litB wd [a * c - b * d, a * d + b * c] (by simp) 2 rfl _ rfl).wide HLW.out.size (Nat.le_refl _)
theorem Ints.at4 {w : World} {v : Value} {x y z t : Int} (h : Ints w v [x, y, z, t]) : ∃ ad cap, v = .slice (some ad) 4 cap ∧ w.cell? ad = some (.int .i64 x) ∧ w.cell? ⟨ad.block, ad.off + 1, none⟩ = some (.int .i64 y) ∧ w.cell? ⟨ad.block, ad.off + 2, none⟩ = some (.int .i64 z) ∧ w.cell? ⟨ad.block, ad.off + 3, none⟩ = some (.int .i64 t) := by
  obtain ⟨a, cap, rfl, _, hc⟩ := h
  obtain ⟨ad, rfl, h0⟩ := hc 0 (by simp)
  obtain ⟨ad1, e1, h1⟩ := hc 1 (by simp)
  obtain ⟨ad2, e2, h2⟩ := hc 2 (by simp)
  obtain ⟨ad3, e3, h3⟩ := hc 3 (by simp)
  cases e1; cases e2; cases e3
  exact ⟨ad, cap, rfl, by simpa [Addr.add] using h0, by simpa [Addr.add] using h1, by simpa [Addr.add] using h2, by simpa [Addr.add] using h3⟩
end Go.Proofs.Ytofmmegpadojlaa
