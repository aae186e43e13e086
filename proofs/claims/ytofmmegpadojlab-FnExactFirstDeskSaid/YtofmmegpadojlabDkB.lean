/- FirstDesk in both; marks put into a desk, and found there. -/
import Derived.Test.YtofmmegpadojlabDkA
import Derived.Deep.AppendLies
namespace Go.Proofs.Ytofmmegpadojlab
open Go.RowKit

theorem ownInts_litD (w : World) (lo : Nat) (hlo : lo ≤ w.heap.size) (zs : List Int) (hz : zs.length ≤ 1000) : OwnInts lo (w.alloc (.cells (zs.map (Value.int .i64)).toArray 3)).heap.size (w.alloc (.cells (zs.map (Value.int .i64)).toArray 3)) (.slice (some ⟨w.heap.size, 0, none⟩) zs.length zs.length) zs := by
  have h := World.ownsRow_lit (e := 3) (size := 1) w (zs.map (Value.int .i64)).toArray zs.length hlo (by unfold maxLen; omega) (by simp)
  refine ⟨by simpa using h, fun k hk => ?_⟩
  simp [Value.ownBlock] at hk ⊢
  omega
/-- a desk of one's own -/
def DkOwn (w : World) (zs qs : List Int) (e : Ending) (w' : World) : Prop := ∃ p1 k1 p2 k2 mid, e = .returned (.agg #[.slice p1 zs.length k1, .slice p2 qs.length k2]) ∧ w.heap.size ≤ mid ∧ mid ≤ w'.heap.size ∧ OwnInts w.heap.size mid w' (.slice p1 zs.length k1) zs ∧ OwnInts mid w'.heap.size w' (.slice p2 qs.length k2) qs ∧ Later w w'
theorem first_made (w : World) : DkOwn w [1, 1, 1] [-1, 2, 2, 3] (.returned (.agg #[.slice (some ⟨w.heap.size + 1, 0, none⟩) 3 3, .slice (some ⟨w.heap.size + 1 + 1, 0, none⟩) 4 4]))
    (((w.alloc (.cells #[.slice (some ⟨w.heap.size + 1, 0, none⟩) 3 3, .slice (some ⟨w.heap.size + 1 + 1, 0, none⟩) 4 4] 46)).alloc (.cells #[.int .i64 1, .int .i64 1, .int .i64 1] 3)).alloc (.cells #[.int .i64 (-1), .int .i64 2, .int .i64 2, .int .i64 3] 3)) := by
  have h1 := ownInts_litD (w.alloc (.cells #[.slice (some ⟨w.heap.size + 1, 0, none⟩) 3 3, .slice (some ⟨w.heap.size + 1 + 1, 0, none⟩) 4 4] 46)) w.heap.size (by simp) [1, 1, 1] (by simp)
  have h2 := ownInts_litD ((w.alloc (.cells #[.slice (some ⟨w.heap.size + 1, 0, none⟩) 3 3, .slice (some ⟨w.heap.size + 1 + 1, 0, none⟩) 4 4] 46)).alloc (.cells #[.int .i64 1, .int .i64 1, .int .i64 1] 3)) (w.heap.size + 1 + 1) (by simp) [-1, 2, 2, 3] (by simp)
  simp only [World.size_alloc] at h1 h2
  refine ⟨_, _, _, _, w.heap.size + 1 + 1, rfl, by omega, by simp, (h1.later (Later.alloc _ _)), by simpa using h2, (Later.alloc w _).trans ((Later.alloc _ _).trans (Later.alloc _ _))⟩
set_option maxRecDepth 20000 in
set_option maxHeartbeats 1000000 in
theorem specFirstDesk_any (w : World) : Calls Try.prog 30 #[] w fun e w' => DkOwn w [1, 1, 1] [-1, 2, 2, 3] e w' := by
  have HM := hid (first_made w)
  go_enter Try.func30, Try.ntmps30
  go_wp2_with fail
  refine bodyPost_ret (v := .agg #[.slice (some ⟨w.heap.size + 1, 0, none⟩) 3 3, .slice (some ⟨w.heap.size + 1 + 1, 0, none⟩) 4 4]) ?_ rfl HM.out
  rw [results_cellD rfl]
  simp [asAddr, (((Box2.new w (.slice (some ⟨w.heap.size + 1, 0, none⟩) 3 3) (.slice (some ⟨w.heap.size + 1 + 1, 0, none⟩) 4 4) 46).later (Later.alloc _ (.cells #[.int .i64 1, .int .i64 1, .int .i64 1] 3))).later (Later.alloc _ (.cells #[.int .i64 (-1), .int .i64 2, .int .i64 2, .int .i64 3] 3))).load]
set_option maxRecDepth 20000 in
set_option maxHeartbeats 1000000 in
theorem implFirstDesk_any (w : World) : Calls Try.prog 31 #[] w fun e w' => DkOwn w [1, 1, 1] [-1, 2, 2, 3] e w' := by
  have HM := hid (first_made w)
  go_enter Try.func31, Try.ntmps31
  go_wp2_with fail
  refine bodyPost_ret (v := .agg #[.slice (some ⟨w.heap.size + 1, 0, none⟩) 3 3, .slice (some ⟨w.heap.size + 1 + 1, 0, none⟩) 4 4]) ?_ rfl HM.out
  rw [results_cellD rfl]
  simp [asAddr, (((Box2.new w (.slice (some ⟨w.heap.size + 1, 0, none⟩) 3 3) (.slice (some ⟨w.heap.size + 1 + 1, 0, none⟩) 4 4) 46).later (Later.alloc _ (.cells #[.int .i64 1, .int .i64 1, .int .i64 1] 3))).later (Later.alloc _ (.cells #[.int .i64 (-1), .int .i64 2, .int .i64 2, .int .i64 3] 3))).load]
/-- marks put into a desk: what else there was is left -/
def MarkDk (lo mid hi : Nat) (w : World) (u v : Value) (n m : Nat) (k : Int) (e : Ending) (w' : World) : Prop :=
  e = .returned (.int .i64 (k + n + m)) ∧ OwnInts lo mid w' u (iota k n) ∧ OwnInts mid hi w' v (iota (k + n) m) ∧ (∀ b, b < w.heap.size → ¬ (lo ≤ b ∧ b < hi) → w'.heap[b]? = w.heap[b]?) ∧ w.heap.size ≤ w'.heap.size ∧ ∀ base, Later base w → base.heap.size ≤ lo → Later base w'
set_option maxRecDepth 20000 in
set_option maxHeartbeats 1000000 in
theorem markDesk_any (lo mid hi : Nat) (u v : Value) (zs qs : List Int) (k : Int) (w : World) (hk : 0 ≤ k ∧ k ≤ 1000) (hz : zs.length ≤ 1000) (hq : qs.length ≤ 1000) (hlm : lo ≤ mid) (hmh : mid ≤ hi) (hhi : hi ≤ w.heap.size) (h1 : OwnInts lo mid w u zs) (h2 : OwnInts mid hi w v qs) :
    Calls Try.prog 32 #[.agg #[u, v], .int .i64 k] w fun e w' => MarkDk lo mid hi w u v zs.length qs.length k e w' := by
  have HL := hid (Later.alloc w (.cells #[u, v] 46))
  have HBX := hid (Box2.new w u v 46)
  have HM := hid (markIntS_any lo mid u zs k (w.alloc (.cells #[u, v] 46)) ⟨by omega, by omega⟩ (h1.later HL.out))
  have HM2 := hid (fun w' (h : OwnInts mid hi w' v qs) => markIntS_any mid hi v qs (k + zs.length) w' ⟨by omega, by omega⟩ h)
  have H2 := hid (h2.later HL.out)
  have HA := hid (And.intro hlm (And.intro hmh hhi))
  have hkw : IntKind.i64.wrap k = k := by rw [IntWalk.i64_left]; exact IntWalk.wrap64_in _ (by omega)
  clear h1 h2 hlm hmh hhi
  go_enter Try.func32, Try.ntmps32
  go_wp2_with fail
  refine HM.out.mono ?_
  rintro e w1 ⟨rfl, hO, hW⟩
  have HO := hid hO
  have HW := hid hW
  have HNE := hid (show ∀ b, u.ownBlock = some b → b = w.heap.size → False from fun b hb e => by have h1 := HO.out.blk hb; have h2 := HA.out; omega)
  have HBX1 := hid (show Box2 w1 w.heap.size u v from ⟨cell_keep HBX.out.c0 (hW.block _ (fun hb => HNE.out _ hb rfl)), cell_keep HBX.out.c1 (hW.block _ (fun hb => HNE.out _ hb rfl)), (World.frozen?_of_block (hW.block _ (fun hb => HNE.out _ hb rfl))).trans HBX.out.f0, (World.frozen?_of_block (hW.block _ (fun hb => HNE.out _ hb rfl))).trans HBX.out.f1⟩)
  have HQ1 := hid (show OwnInts mid hi w1 v qs from H2.out.keep fun b b1 b2 => hW.block b (fun hb => by have := HO.out.blk hb; omega))
  clear hO hW
  obtain ⟨c0, c1, _, _⟩ := HBX1.out
  go_wp2_with fail
  refine (HM2.out w1 HQ1.out).mono ?_
  rintro e w2 ⟨rfl, hO, hW⟩
  have HO2 := hid hO
  have HW2 := hid hW
  have HU2 := hid (show OwnInts lo mid w2 u (iota k zs.length) from HO.out.keep fun b b1 b2 => hW.block b (fun hb => by have := HO2.out.blk hb; omega))
  clear hO hW
  go_wp2_with fail
  go_ret
  obtain ⟨a1, a2, a3⟩ := HA.out
  refine ⟨rfl, HU2.out, HO2.out, fun b b1 b2 => ?_, ?_, fun base hb hlo => ?_⟩
  · refine (HW2.out.block b (fun hb => by have := HO2.out.blk hb; omega)).trans ((HW.out.block b (fun hb => by have := HO.out.blk hb; omega)).trans ?_)
    exact HL.out.block b b1
  · rw [HW2.out.size, HW.out.size]; exact HL.out.size
  · exact Wrote.below (Wrote.below (hb.trans HL.out) HW.out (fun b hb => by have := HO.out.blk hb; omega)) HW2.out (fun b hb => by have := HO2.out.blk hb; omega)
set_option maxRecDepth 20000 in
set_option maxHeartbeats 1000000 in
theorem heldDesk_any (u v : Value) (n m : Nat) (k : Int) (w : World) (hk : 0 ≤ k ∧ k ≤ 1000) (hz : n ≤ 1000) (hq : m ≤ 1000) (h1 : Ints w u (iota k n)) (h2 : Ints w v (iota (k + n) m)) :
    Calls Try.prog 33 #[.agg #[u, v], .int .i64 k] w fun e w' => e = .returned (.int .i64 (k + n + m)) ∧ Later w w' := by
  have HL := hid (Later.alloc w (.cells #[u, v] 46))
  have HH := hid (heldIntS_any u n k _ ⟨by omega, by omega⟩ (h1.later HL.out))
  have HH2 := hid (heldIntS_any v m (k + n) _ ⟨by omega, by omega⟩ (h2.later HL.out))
  have hn1 : ¬ k + n < 0 := by omega
  have hn2 : ¬ k + n + m < 0 := by omega
  clear h1 h2
  go_enter Try.func33, Try.ntmps33
  go_wp2_with fail
  refine HH.out.mono ?_
  rintro e w1 ⟨rfl, rfl⟩
  go_wp2_with fail
  refine HH2.out.mono ?_
  rintro e w2 ⟨rfl, rfl⟩
  go_wp2_with fail
  go_ret
  exact ⟨rfl, HL.out⟩
end Go.Proofs.Ytofmmegpadojlab
