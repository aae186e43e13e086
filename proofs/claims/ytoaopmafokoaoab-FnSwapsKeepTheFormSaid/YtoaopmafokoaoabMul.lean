/- Products of matrices: the program's. -/
import Derived.Test.YtoaopmafokoaoabInvIS
namespace Go.Proofs.Ytoaopmafokoaoab
open Go.RowKit

def mulAt (n : Nat) (A B : List (List Int)) (i j : Nat) : Int := wsum (fun k => wrap64 (ent A i k * ent B k j)) n
def mulM (n : Nat) (A B : List (List Int)) : List (List Int) := mk n (mulAt n A B)

set_option maxHeartbeats 400000 in
theorem timesTerm_any (n : Nat) (B : List (List Int)) (hq : Sq n B) (bb bj : Nat) (v : Value) (k j : Nat) (x : Int) (w : World) (hk : k < n) (hj : j < n)
    (hbb : w.cell? ⟨bb, 0, none⟩ = some v) (hbj : w.cell? ⟨bj, 0, none⟩ = some (.int .i64 j)) (h : Rows2 w v B) :
    Calls Try.prog 106 #[.int .i64 k, .int .i64 x, .pointer (some ⟨bb, 0, none⟩), .pointer (some ⟨bj, 0, none⟩)] w fun e w' => e = .returned (.int .i64 (wrap64 (x * ent B k j))) ∧ Later w w' := by
  obtain ⟨ad, cap, a2, c2, rfl, hc, _, hx⟩ := h.ent hq k hk
  obtain ⟨ad2, rfl, hcx⟩ := hx j hj
  have h1 : w.drew.cell? ⟨bj, 0, none⟩ = some (.int .i64 j) := hbj
  have h2 : w.drew.cell? ⟨bb, 0, none⟩ = some (.slice (some ad) n cap) := hbb
  have h3 : w.drew.cell? (ad.add k) = some (.slice (some ad2) n c2) := hc
  have h4 : w.drew.cell? (ad2.add j) = some (.int .i64 (ent B k j)) := hcx
  have hk2 : (k : Int) < (n : Int) := by omega
  have hj2 : (j : Int) < (n : Int) := by omega
  clear hbb hbj hc hcx hx h
  go_enter Try.func106, Try.ntmps106
  go_wp2_with fail
  go_region_held3 (fun w' => w'.cell? ⟨bj, 0, none⟩ = some (.int .i64 j) ∧ w'.cell? ⟨bb, 0, none⟩ = some (.slice (some ad) n cap) ∧ w'.cell? (ad.add k) = some (.slice (some ad2) n c2) ∧ w'.cell? (ad2.add j) = some (.int .i64 (ent B k j))) (exact ⟨h1, h2, h3, h4⟩) (fail)
  go_wp2_with fail
  go_ret
  exact ⟨by simp [IntWalk.i64_left], Later.drew w⟩

set_option maxHeartbeats 400000 in
theorem timesEntry_any (n : Nat) (A B : List (List Int)) (hqa : Sq n A) (hqb : Sq n B) (ba bb : Nat) (va vb : Value) (i j : Nat) (w : World) (hi : i < n) (hj : j < n)
    (hba : w.cell? ⟨ba, 0, none⟩ = some va) (hbb : w.cell? ⟨bb, 0, none⟩ = some vb) (hA : Rows2 w va A) (hB : Rows2 w vb B) :
    Calls Try.prog 104 #[.int .i64 i, .int .i64 j, .pointer (some ⟨ba, 0, none⟩), .pointer (some ⟨bb, 0, none⟩)] w fun e w' => e = .returned (.int .i64 (mulAt n A B i j)) ∧ Later w w' := by
  obtain ⟨ad, cap, a2, c2, rfl, hc, hir, hx⟩ := hA.ent hqa i hi
  have hL := Later.alloc w (.cells #[.int .i64 (j : Int)] 3)
  have hcj : (w.alloc (.cells #[.int .i64 (j : Int)] 3)).cell? ⟨w.heap.size, 0, none⟩ = some (.int .i64 j) := by simp [go_sem]
  have hba1 := hL.cell hba
  have HBB := hid (hL.cell hbb)
  have hc1 := hL.cell hc
  have HIR := hid (hir.later hL)
  have HB := hid (hB.later hL)
  have HCJ := hid hcj
  have HL := hid hL
  have hi2 : (i : Int) < (n : Int) := by omega
  have hln : (A.getD i []).length = n := hqa.2 i hi
  clear hx hba hbb hc hir hA hB hL hcj
  go_enter Try.func104, Try.ntmps104
  go_wp2_with fail
  generalize w.alloc (.cells #[.int .i64 (j : Int)] 3) = w1 at hba1 hc1 HBB HIR HB HCJ HL ⊢
  clear hba1 hc1
  refine (sumOver_any _ (A.getD i []) 106 #[.pointer (some ⟨bb, 0, none⟩), .pointer (some ⟨w.heap.size, 0, none⟩)] (fun k => wrap64 (ent A i k * ent B k j)) _ Try.call106 HIR.out (fun k w2 hk hL => timesTerm_any n B hqb bb w.heap.size _ k j _ w2 (by omega) hj (hL.cell HBB.out) (hL.cell HCJ.out) (HB.out.later hL))).mono ?_
  rintro e w2 ⟨he, hL⟩
  rw [show wsum (fun k => wrap64 (ent A i k * ent B k j)) (A.getD i []).length = mulAt n A B i j by rw [hln]; rfl] at he
  subst he
  have HL2 := hid (HL.out.trans hL)
  clear hL
  go_wp2_with fail
  go_ret
  exact ⟨rfl, HL2.out⟩

set_option maxHeartbeats 400000 in
theorem times_any (n : Nat) (A B : List (List Int)) (hqa : Sq n A) (hqb : Sq n B) (va vb : Value) (w : World) (hn : n ≤ 1048576) (hA : Rows2 w va A) (hB : Rows2 w vb B) :
    Calls Try.prog 77 #[va, vb] w fun e w' => MadeRows w (mulM n A B) e w' := by
  obtain ⟨a, cap, rfl, hl⟩ := hA.sqForm hqa
  have hL := (Later.alloc w (.cells #[Value.slice a n cap] 79)).trans (Later.alloc _ (.cells #[vb] 79))
  obtain ⟨a', cap', rfl, _⟩ := hB.sqForm hqb
  have hb0 : ((w.alloc (.cells #[Value.slice a n cap] 79)).alloc (.cells #[Value.slice a' n cap'] 79)).cell? ⟨w.heap.size, 0, none⟩ = some (.slice a n cap) := by simp [go_sem]
  have hb1 : ((w.alloc (.cells #[Value.slice a n cap] 79)).alloc (.cells #[Value.slice a' n cap'] 79)).cell? ⟨w.heap.size + 1, 0, none⟩ = some (.slice a' n cap') := by simp [go_sem]
  have hs : w.heap.size ≤ ((w.alloc (.cells #[Value.slice a n cap] 79)).alloc (.cells #[Value.slice a' n cap'] 79)).heap.size := by simp; omega
  have HA := hid (hA.later hL)
  have HB := hid (hB.later hL)
  have HL := hid hL
  clear hA hB hL
  go_enter Try.func77, Try.ntmps77
  go_wp2_with fail
  generalize (w.alloc (.cells #[Value.slice a n cap] 79)).alloc (.cells #[Value.slice a' n cap'] 79) = w1 at hb0 hb1 hs HA HB HL ⊢
  have HB0 := hid hb0
  have HB1 := hid hb1
  clear hb0 hb1
  refine (gridOf_pure n 104 #[.pointer (some ⟨w.heap.size, 0, none⟩), .pointer (some ⟨w.heap.size + 1, 0, none⟩)] (mulAt n A B) _ hn Try.call104 (fun i j w2 hi hj hL => timesEntry_any n A B hqa hqb _ _ _ _ i j w2 hi hj (hL.cell HB0.out) (hL.cell HB1.out) (HA.out.later hL) (HB.out.later hL))).mono ?_
  rintro e w2 ⟨v2, rfl, ho, hL⟩
  have HO := hid ho
  have HL2 := hid (HL.out.trans hL)
  clear ho hL
  go_wp2_with fail
  go_ret
  exact ⟨_, rfl, HO.out.wide hs (Nat.le_refl _), HL2.out⟩
end Go.Proofs.Ytoaopmafokoaoab
