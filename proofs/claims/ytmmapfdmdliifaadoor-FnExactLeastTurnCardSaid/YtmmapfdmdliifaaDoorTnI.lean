/- Turns of letters in the program: a closure spells each; the library sorts them and makes them single. -/
import Derived.Test.YtmmapfdmdliifaaDoorTn
import Derived.Test.YtmmapfdmdliifaaDoorWdD
import Derived.Test.YtmmapfdmdliifaaDoorWdI
import Derived.Test.YtmmapfdmdliifaaDoorStrs
import Derived.Test.YtmmapfdmdliifaaDoorLaySortS
import Derived.Test.YtmmapfdmdliifaaDoorLayCompS
import Derived.Sort.OwnSorted
import Derived.Lib.RowBridge
namespace Go.Proofs.YtmmapfdmdliifaaDoor
open Go.RowKit

theorem turn_at (l : List UInt8) (j i : Nat) (hj : j < l.length) (hi : i < l.length) : (turn l j)[i]? = l[(j + i) % l.length]? := by
  unfold turn
  by_cases h : i < l.length - j
  · rw [List.getElem?_append_left (by rw [List.length_drop]; exact h), List.getElem?_drop, Nat.mod_eq_of_lt (by omega)]
  · rw [List.getElem?_append_right (by rw [List.length_drop]; omega), List.length_drop, List.getElem?_take_of_lt (by omega)]
    congr 1
    rw [Nat.mod_eq_sub_mod (by omega), Nat.mod_eq_of_lt (by omega)]
    omega

set_option maxRecDepth 20000 in
set_option maxHeartbeats 2000000 in
theorem turnLetter_any (s : ByteArray) (j i : Nat) (a1 a2 : Addr) (w : World) (hs : s.size ≤ 40) (hj : j < s.size) (hi : i < s.size) (c1 : w.cell? a1 = some (.string s)) (c2 : w.cell? a2 = some (.int .i64 (j : Nat))) :
    Calls Tryd.prog 77 #[.int .i64 (i : Nat), .pointer (some a1), .pointer (some a2)] w fun e w' => e = .returned (.int .u8 (((turn s.data.toList j).getD i 0).toNat : Nat)) ∧ Later w w' := by
  obtain ⟨K, hK⟩ : ∃ K, (j + i) % s.size = K := ⟨_, rfl⟩
  have hKs : K < s.size := by rw [← hK]; exact Nat.mod_lt _ (by omega)
  have hm := turn_at s.data.toList j i (by rw [← size_list]; exact hj) (by rw [← size_list]; exact hi)
  rw [← size_list, hK, byte_at s K hKs] at hm
  rw [List.getD_eq_getElem?_getD, hm, Option.getD_some]
  have hn0 : ¬ (s.size : Int) = 0 := by omega
  have hn1 : ¬ s.size = 0 := by omega
  have hKI : (K : Int) < (s.size : Int) := by omega
  obtain ⟨t, ht⟩ : ∃ t, j + i = t := ⟨_, rfl⟩
  have h1 : (j : Int) + (i : Int) = (t : Int) := by omega
  rw [ht] at hK
  have h2 : (t : Int).tmod (s.size : Int) = (K : Int) := by rw [← hK, Int.tmod_eq_emod_of_nonneg (Int.natCast_nonneg _)]; rfl
  have w1 : IntKind.i64.wrap (t : Int) = (t : Int) := by rw [IntWalk.i64_left]; exact IntWalk.wrap64_in _ (by omega)
  have w2 : IntKind.i64.wrap (K : Int) = (K : Int) := by rw [IntWalk.i64_left]; exact IntWalk.wrap64_in _ (by omega)
  clear hm hK ht
  go_enter Tryd.func77, Tryd.ntmps77
  go_wp2_with fail
  go_quiet (fail)
  go_wp2_with fail
  go_ret
  exact ⟨rfl, Later.drewN _ _⟩

set_option maxRecDepth 20000 in
set_option maxHeartbeats 1000000 in
theorem turnedTo_any (s : ByteArray) (j : Nat) (w : World) (hs : s.size ≤ 40) (hj : j < s.size) :
    Calls Tryd.prog 49 #[.string s, .int .i64 (j : Nat)] w fun e w' => ∃ v, e = .returned v ∧ Spells w' v (turn s.data.toList j) ∧ Later w w' := by
  obtain ⟨W, hW⟩ : ∃ W, W = ((w.alloc (.cells #[Value.string s] 9)).alloc (.cells #[Value.int .i64 (j : Nat)] 3)).alloc (.cells #[Value.int .i64 (s.size : Nat), Value.func (.func 77) #[] #[.pointer (some ⟨w.heap.size, 0, none⟩), .pointer (some ⟨w.heap.size + 1, 0, none⟩)]] 52) := ⟨_, rfl⟩
  have cb : W.cell? ⟨w.heap.size, 0, none⟩ = some (.string s) := by rw [hW]; simp [go_sem]
  have cn : W.cell? ⟨w.heap.size + 1, 0, none⟩ = some (.int .i64 (j : Nat)) := by rw [hW]; simp [go_sem]
  have r0 : W.cell? ⟨w.heap.size + 1 + 1, 0, none⟩ = some (.int .i64 (s.size : Nat)) := by rw [hW]; simp [go_sem]
  have r1 : W.cell? ⟨w.heap.size + 1 + 1, 1, none⟩ = some (.func (.func 77) #[] #[.pointer (some ⟨w.heap.size, 0, none⟩), .pointer (some ⟨w.heap.size + 1, 0, none⟩)]) := by rw [hW]; simp [go_sem]
  have HL := hid (show Later w W from hW ▸ ((Later.alloc w _).trans (Later.alloc _ _)).trans (Later.alloc _ _))
  have HSP := hid (show Spells W (.agg #[.int .i64 (s.size : Nat), .func (.func 77) #[] #[.pointer (some ⟨w.heap.size, 0, none⟩), .pointer (some ⟨w.heap.size + 1, 0, none⟩)]]) (turn s.data.toList j) from
    ⟨77, _, by rw [turn_len, size_list], Tryd.call77, fun i w1 hi hL => by
      rw [turn_len, ← size_list] at hi
      exact turnLetter_any s j i _ _ w1 hs hj hi (hL.cell cb) (hL.cell cn)⟩)
  have HW := hid hW
  have R0 := hid r0
  have R1 := hid r1
  clear hW cb cn r0 r1
  go_enter Tryd.func49, Tryd.ntmps49
  go_wp2_with fail
  rw [← HW.out]
  have r0 := R0.out
  have r1 := R1.out
  refine bodyPost_ret (v := .agg #[.int .i64 (s.size : Nat), .func (.func 77) #[] #[.pointer (some ⟨w.heap.size, 0, none⟩), .pointer (some ⟨w.heap.size + 1, 0, none⟩)]]) ?_ rfl ⟨_, rfl, HSP.out, HL.out⟩
  rw [results_cell_1 rfl]
  go_simp

abbrev sortedS (L : List (List UInt8)) : List (List UInt8) := L.mergeSort fun x y => decide (x ≤ y)
theorem sortS_any (lo hi g cap : Nat) (L : List (List UInt8)) (w : World) (hl : L.length ≤ 1048576) (h : OwnStrs lo hi w (.slice (some ⟨g, 0, none⟩) L.length cap) L) :
    Calls Tryd.prog 51 #[.slice (some ⟨g, 0, none⟩) L.length cap] w fun e w' => e = .returned (.tuple #[]) ∧ OwnStrs lo hi w' (.slice (some ⟨g, 0, none⟩) L.length cap) (sortedS L) ∧ w.grownBy w' (some g) := by
  rcases h.1.2 with ⟨hn, _⟩ | ⟨g', cap', cur, hv, hbase, hb, h1, h2, h3, h4⟩
  · cases hn
  cases hv
  have hgl : g < w.heap.size := (Array.getElem?_eq_some_iff.1 hb).1
  refine (Any.slices_Sort_string laysLays190 g 0 cap L w (holds_of_block hb (by rw [Nat.mul_one] at h4; exact h4)) hgl (by omega)).mono ?_
  rintro e w' ⟨rfl, n, os, rfl⟩
  have hs := ownsRow_sorted (w := w) (n := n) (os := os) (ss := L) (ts := sortedS L) (by simp [sortedS]) hbase hb h1 h2 h3
  refine ⟨rfl, ⟨?_, h.2⟩, grownBy_sorted _⟩
  have hlen : (sortedS L).length = L.length := by simp [sortedS]
  rw [hlen]
  exact hs
theorem ownsRow_prefix {w : World} {base : Nat} {e : TypeId} {g n m cap : Nat} {xs : List Value} (h : w.ownsRow base e 1 (.slice (some ⟨g, 0, none⟩) n cap) n xs) (hm : m ≤ n) :
    w.ownsRow base e 1 (.slice (some ⟨g, 0, none⟩) m cap) m (xs.take m) := by
  obtain ⟨hl, h2⟩ := h
  rw [Nat.mul_one] at hl
  refine ⟨by rw [List.length_take]; omega, ?_⟩
  rcases h2 with ⟨hn, _⟩ | ⟨g', cap', cur, hv, hbase, hb, h1, h2, h3, h4⟩
  · cases hn
  cases hv
  refine .inr ⟨g, cap, cur, rfl, hbase, hb, by omega, h2, h3, ?_⟩
  rw [Nat.mul_one] at h4 ⊢
  rw [← h4, List.take_take, Nat.min_eq_left hm]
theorem compactS_any (lo hi g cap : Nat) (L : List (List UInt8)) (w : World) (hl : L.length ≤ 1048576) (h : OwnStrs lo hi w (.slice (some ⟨g, 0, none⟩) L.length cap) L) :
    Calls Tryd.prog 52 #[.slice (some ⟨g, 0, none⟩) L.length cap] w fun e w' => e = .returned (.slice (some ⟨g, 0, none⟩) (Lib.compact L).length cap) ∧ OwnStrs lo hi w' (.slice (some ⟨g, 0, none⟩) (Lib.compact L).length cap) (Lib.compact L) ∧ w.grownBy w' (some g) := by
  rcases h.1.2 with ⟨hn, _⟩ | ⟨g', cap', cur, hv, hbase, hb, h1, h2, h3, h4⟩
  · cases hn
  cases hv
  have hcl := Lib.compact_length_le L
  refine (Any.slices_Compact_string laysLays194 g 0 cap L w (holds_of_block hb (by rw [Nat.mul_one] at h4; exact h4)) (by omega) h1).mono ?_
  rintro e w' ⟨rfl, q, rfl⟩
  have hs := ownsRow_sorted (w := w) (n := q) (os := #[]) (ss := L) (ts := Lib.compact L ++ List.replicate (L.length - (Lib.compact L).length) []) (by simp; omega) hbase hb h1 h2 h3
  rw [Go.Sort.grow_empty] at hs
  have hg := grownBy_sorted (w := w) (g := g) (n := q) (os := #[]) (Lib.compact L ++ List.replicate (L.length - (Lib.compact L).length) []).toArray
  rw [Go.Sort.grow_empty] at hg
  refine ⟨rfl, ⟨?_, fun k hk => h.2 k (by simpa [Value.ownBlock] using hk)⟩, hg⟩
  have hp := ownsRow_prefix hs hcl
  rw [← List.map_take, List.take_left] at hp
  exact hp
end Go.Proofs.YtmmapfdmdliifaaDoor
