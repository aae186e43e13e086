/- Contracts of determinants: the program's. -/
import Derived.Test.YtdahhcigphhfdacTrace
namespace Go.Proofs.Ytdahhcigphhfdac
open Go.RowKit

def sgn (k : Nat) : Int := if k % 2 = 0 then 1 else -1
def skip (r i : Nat) : Nat := if r ≤ i then i + 1 else i
/-- without a row and a column; n: its size -/
def minorM (n : Nat) (m : List (List Int)) (r c : Nat) : List (List Int) := mk n fun i j => ent m (skip r i) (skip c j)
def det : Nat → List (List Int) → Int
  | 0, _ => 1
  | n + 1, m => wsum (fun j => wrap64 (wrap64 (sgn j * ent m 0 j) * det n (minorM n m 0 j))) (n + 1)
theorem skip_lt {n r i : Nat} (h : i < n) : skip r i < n + 1 := by unfold skip; split <;> omega

theorem add_at (a : Addr) (i : Nat) : a.add (i + 1) = ⟨a.block, a.off + (i + 1), none⟩ := by simp [Addr.add]

theorem signAt_any (k : Nat) (w : World) (hk : k ≤ 1048576) :
    Calls Try.prog 131 #[.int .i64 k] w fun e w' => e = .returned (.int .i64 (sgn k)) ∧ w = w' := by
  go_enter Try.func131, Try.ntmps131
  go_wp2_with fail
  go_ret
  refine ⟨ret_int ?_, rfl⟩
  unfold sgn
  split <;> omega

set_option linter.unusedSimpArgs false in
set_option maxHeartbeats 400000 in
theorem minorEntry_any (n : Nat) (m : List (List Int)) (hq : Sq (n + 1) m) (hn : n ≤ 1048576) (br bc b : Nat) (r c : Nat) (v : Value) (i j : Nat) (w : World) (hi : i < n) (hj : j < n)
    (hbr : w.cell? ⟨br, 0, none⟩ = some (.int .i64 r)) (hbc : w.cell? ⟨bc, 0, none⟩ = some (.int .i64 c)) (hb : w.cell? ⟨b, 0, none⟩ = some v) (h : Rows2 w v m) :
    Calls Try.prog 150 #[.int .i64 i, .int .i64 j, .pointer (some ⟨br, 0, none⟩), .pointer (some ⟨bc, 0, none⟩), .pointer (some ⟨b, 0, none⟩)] w fun e w' => e = .returned (.int .i64 (ent m (skip r i) (skip c j))) ∧ w = w' := by
  obtain ⟨ad, cap, a2, c2, rfl, hc, _, hx⟩ := h.ent hq (skip r i) (skip_lt hi)
  obtain ⟨ad2, rfl, hcx⟩ := hx (skip c j) (skip_lt hj)
  have h1 := skip_lt (r := r) hi
  have h2 := skip_lt (r := c) hj
  clear hx
  have hib : (i : Int) ≤ 1048576 := by omega
  have hjb : (j : Int) ≤ 1048576 := by omega
  by_cases hri : r ≤ i <;> by_cases hcj : c ≤ j
  all_goals
    simp only [skip, if_pos, if_neg, hri, hcj, if_true, if_false] at hc hcx ⊢
    try rw [add_at ad i] at hc
    try rw [add_at ad2 j] at hcx
    go_enter Try.func150, Try.ntmps150
    go_wp2_with fail
    go_ret
    exact ⟨rfl, rfl⟩

set_option maxHeartbeats 400000 in
theorem without_any (n : Nat) (m : List (List Int)) (hq : Sq (n + 1) m) (hn : n + 1 ≤ 1048576) (r c : Nat) (v : Value) (w : World) (h : Rows2 w v m) :
    Calls Try.prog 132 #[v, .int .i64 r, .int .i64 c] w fun e w' => MadeRows w (minorM n m r c) e w' := by
  obtain ⟨a, cap, rfl, hl⟩ := h.sqForm hq
  have hA := ((Later.alloc w (.cells #[Value.slice a (n + 1) cap] 91)).trans (Later.alloc _ (.cells #[.int .i64 (r : Int)] 3))).trans (Later.alloc _ (.cells #[.int .i64 (c : Int)] 3))
  have hb0 : (((w.alloc (.cells #[Value.slice a (n + 1) cap] 91)).alloc (.cells #[.int .i64 (r : Int)] 3)).alloc (.cells #[.int .i64 (c : Int)] 3)).cell? ⟨w.heap.size, 0, none⟩ = some (.slice a (n + 1) cap) := by simp [go_sem]
  have hb1 : (((w.alloc (.cells #[Value.slice a (n + 1) cap] 91)).alloc (.cells #[.int .i64 (r : Int)] 3)).alloc (.cells #[.int .i64 (c : Int)] 3)).cell? ⟨w.heap.size + 1, 0, none⟩ = some (.int .i64 r) := by simp [go_sem]
  have hb2 : (((w.alloc (.cells #[Value.slice a (n + 1) cap] 91)).alloc (.cells #[.int .i64 (r : Int)] 3)).alloc (.cells #[.int .i64 (c : Int)] 3)).cell? ⟨w.heap.size + 1 + 1, 0, none⟩ = some (.int .i64 c) := by simp [go_sem]
  have hs : w.heap.size ≤ (((w.alloc (.cells #[Value.slice a (n + 1) cap] 91)).alloc (.cells #[.int .i64 (r : Int)] 3)).alloc (.cells #[.int .i64 (c : Int)] 3)).heap.size := by simp; omega
  have HR := hid (h.later hA)
  have HL := hid hA
  clear h hA
  go_enter Try.func132, Try.ntmps132
  go_wp2_with fail
  generalize (((w.alloc (.cells #[Value.slice a (n + 1) cap] 91)).alloc (.cells #[.int .i64 (r : Int)] 3)).alloc (.cells #[.int .i64 (c : Int)] 3)) = w1 at hb0 hb1 hb2 hs HR HL ⊢
  have HB0 := hid hb0
  have HB1 := hid hb1
  have HB2 := hid hb2
  clear hb0 hb1 hb2
  refine (gridOf_pure n 150 #[.pointer (some ⟨w.heap.size + 1, 0, none⟩), .pointer (some ⟨w.heap.size + 1 + 1, 0, none⟩), .pointer (some ⟨w.heap.size, 0, none⟩)] (fun i j => ent m (skip r i) (skip c j)) _ (by omega) Try.call150 (fun i j w1 hi hj hL => (minorEntry_any n m hq (by omega) (w.heap.size + 1) (w.heap.size + 1 + 1) w.heap.size r c _ i j w1 hi hj (hL.cell HB1.out) (hL.cell HB2.out) (hL.cell HB0.out) (HR.out.later hL)).mono fun e w2 ⟨he, hw⟩ => ⟨he, by subst hw; exact Later.refl _⟩)).mono ?_
  rintro e w1 ⟨v1, rfl, ho, hL⟩
  have HO := hid ho
  have HL1 := hid (HL.out.trans hL)
  clear ho hL
  go_wp2_with fail
  go_ret
  exact ⟨_, rfl, HO.out.wide hs (Nat.le_refl _), HL1.out⟩

def DetAt (n : Nat) : Prop := ∀ (m : List (List Int)), Sq n m → ∀ (v : Value) (w : World), Rows2 w v m →
  Calls Try.prog 86 #[v] w fun e w' => e = .returned (.int .i64 (det n m)) ∧ Later w w'

theorem minorM_sq (n : Nat) (m : List (List Int)) (r c : Nat) : Sq n (minorM n m r c) := Sq.mk' _ _

set_option maxHeartbeats 400000 in
theorem detEntry_any (n : Nat) (IH : DetAt n) (m : List (List Int)) (hq : Sq (n + 1) m) (hn : n + 1 ≤ 1048576) (b : Nat) (v : Value) (j : Nat) (x : Int) (w : World) (hj : j < n + 1)
    (hb : w.cell? ⟨b, 0, none⟩ = some v) (h : Rows2 w v m) :
    Calls Try.prog 130 #[.int .i64 j, .int .i64 x, .pointer (some ⟨b, 0, none⟩)] w fun e w' => e = .returned (.int .i64 (wrap64 (wrap64 (sgn j * x) * det n (minorM n m 0 j)))) ∧ Later w w' := by
  have HR := hid (h.later (Later.drew w))
  have hj2 : j ≤ 1048576 := by omega
  have hb1 : w.drew.cell? ⟨b, 0, none⟩ = some v := hb
  have IHH := hid IH
  clear h IH hb
  go_enter Try.func130, Try.ntmps130
  go_wp2_with fail
  go_region_held3 (fun w' => w'.cell? ⟨b, 0, none⟩ = some v) (first | exact hb1 | exact hb2 | exact hb3) (first | (go_at_call 131; refine (signAt_any j _ hj2).mono ?_; rintro e ws ⟨rfl, rfl⟩) | (go_at_call 132; refine (without_any n m hq hn 0 j v _ HR.out).mono ?_; rintro e w2 ⟨v2, rfl, ho, hL⟩; have HO := hid ho.rows; have hb2 := hL.cell hb1; have HL2 := hid ((Later.drew w).trans hL); clear hL ho) | (go_at_call 86; refine (IHH.out _ (minorM_sq n m 0 j) v2 _ HO.out).mono ?_; rintro e w3 ⟨rfl, hL⟩; have hb3 := hL.cell hb2; have HL3 := hid (HL2.out.trans hL); clear hL))
  go_wp2_with fail
  go_ret
  exact ⟨by simp [IntWalk.i64_left], HL3.out⟩

set_option maxHeartbeats 400000 in
theorem determinant_any : ∀ (n : Nat), n ≤ 1048576 → DetAt n
  | 0, _ => by
    intro m hq v w h
    obtain ⟨a, cap, rfl, hl⟩ := h.sqForm hq
    go_enter Try.func86, Try.ntmps86
    have hL := Later.alloc w (.cells #[Value.slice a 0 cap] 91)
    go_wp2_with fail
    go_ret
    exact ⟨rfl, hL⟩
  | n + 1, hn => by
    intro m hq v w h
    have IH := determinant_any n (by omega)
    obtain ⟨a, cap, rfl, hl⟩ := h.sqForm hq
    obtain ⟨ad, cap', ar, cr, hv, hcr, hir, _⟩ := h.ent hq 0 (by omega)
    simp only [Value.slice.injEq, true_and] at hv
    obtain ⟨rfl, rfl⟩ := hv
    have hA := Later.alloc w (.cells #[Value.slice (some ad) (n + 1) cap] 91)
    have hb0 : (w.alloc (.cells #[Value.slice (some ad) (n + 1) cap] 91)).cell? ⟨w.heap.size, 0, none⟩ = some (.slice (some ad) (n + 1) cap) := by simp [go_sem]
    have hcr2 : (w.alloc (.cells #[Value.slice (some ad) (n + 1) cap] 91)).cell? ad = some (.slice ar (n + 1) cr) := by simpa [Addr.add] using hA.cell hcr
    have HIR := hid (hir.later hA)
    have HR := hid (h.later hA)
    have HL := hid hA
    have hz0 : ¬ ((n : Int) + 1 = 0) := by omega
    have hln : (m.getD 0 []).length = n + 1 := hq.2 0 (by omega)
    clear hir h hA hcr
    go_enter Try.func86, Try.ntmps86
    go_wp2_with fail
    generalize w.alloc (.cells #[Value.slice (some ad) (n + 1) cap] 91) = w1 at hb0 hcr2 HIR HR HL ⊢
    have HB := hid hb0
    clear hb0 hcr2
    refine (sumOver_any _ (m.getD 0 []) 130 #[.pointer (some ⟨w.heap.size, 0, none⟩)] (fun j => wrap64 (wrap64 (sgn j * ent m 0 j) * det n (minorM n m 0 j))) _ Try.call130 HIR.out (fun j w2 hj hL => detEntry_any n IH m hq hn w.heap.size _ j _ w2 (by omega) (hL.cell HB.out) (HR.out.later hL))).mono ?_
    rintro e w2 ⟨he, hL⟩
    rw [show wsum (fun j => wrap64 (wrap64 (sgn j * ent m 0 j) * det n (minorM n m 0 j))) (m.getD 0 []).length = det (n + 1) m by rw [hln]; rfl] at he
    subst he
    have HL2 := hid (HL.out.trans hL)
    clear hL
    go_wp2_with fail
    go_ret
    exact ⟨rfl, HL2.out⟩

def detAns (m : List (List Int)) : Option Int := whenGood 1000 m (det m.length m)

set_option maxHeartbeats 400000 in
theorem implDeterminantOf_any (v : Value) (m : List (List Int)) (w : World) (h : Rows2 w v m) :
    Calls Try.prog 29 #[.agg #[v]] w fun e w' => NumAns w (detAns m) e w' := by
  obtain ⟨a, cap, rfl, hl, _⟩ := id h
  have HR := hid (h.later (Later.alloc w (.cells #[Value.slice a m.length cap] 46)))
  have HL := hid (Later.alloc w (.cells #[Value.slice a m.length cap] 46))
  clear h
  go_enter Try.func29, Try.ntmps29
  go_wp2_with fail
  refine (answerInt_any _ m 1000 86 (det m.length m) _ ⟨by omega, by omega⟩ HR.out Try.call86 (fun hg u w2 hu => determinant_any m.length (by have := (goodM_sq hg).2.1; omega) m (goodM_sq hg).2.2 u w2 hu)).mono ?_
  rintro e w2 ⟨rfl, hL⟩
  have HL2 := hid (HL.out.trans hL)
  clear hL
  go_wp2_with fail
  go_ret2
  exact ⟨rfl, HL2.out⟩
end Go.Proofs.Ytdahhcigphhfdac
