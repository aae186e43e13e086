/- What the law of configurations draws. -/
import Derived.Test.YtoaopmafokoaoaaCuCf
namespace Go.Proofs.Ytoaopmafokoaoaa
open Go.RowKit

def CisNumC (base : World) (e : Ending) (w' : World) : Prop := ∃ u L, ∃ k : Int, e = .returned (.tuple #[u, .int .i64 k]) ∧ OwnCis base.heap.size w'.heap.size w' u L ∧ L.length ≤ 1000 ∧ Later base w'
set_option maxRecDepth 20000 in
set_option maxHeartbeats 4000000 in
theorem drawSwapCircle_any (v : Value) (bs : List Int) (w : World) (h : BytesR w v bs) :
    Calls Try.prog 26 #[v] w fun e w' => CisNumC w e w' := by
  have HC := hid (fun ty => Cur.newG w v bs h ty)
  obtain ⟨a, cap, rfl, _⟩ := id h
  clear h
  go_enter Try.func26, Try.ntmps26
  go_wp2_with fail
  refine (curConfig_any w _ w.heap.size _ bs 0 (by omega) (HC.out _)).mono ?_
  rintro e w1 ⟨u, L, rfl, ho, hl, hC⟩
  have HO := hid ho
  have HC1 := hid hC
  clear ho hC
  go_wp2_with fail
  refine (curLitG_any w w1 w.heap.size _ bs _ [0, 1, 2, 3, 3, 4, -1] (by omega) (by simp) (by simp) HC1.out).mono ?_
  rintro e w2 ⟨k, rfl, _, hC, hG⟩
  have HO2 := hid ((HO.out.keepG (Nat.lt_succ_self _) hG).wide (show w.heap.size ≤ w.heap.size + 1 by omega) (Nat.le_refl _))
  have HL2 := hid hC.later
  clear hC hG
  go_wp2_with fail
  go_ret2
  exact ⟨u, L, k, rfl, HO2.out, hl, HL2.out⟩
set_option maxRecDepth 20000 in
set_option maxHeartbeats 4000000 in
theorem drawStartConfig_any (v : Value) (bs : List Int) (w : World) (h : BytesR w v bs) :
    Calls Try.prog 40 #[v] w fun e w' => OneNumG w e w' := by
  have HC := hid (fun ty => Cur.newG w v bs h ty)
  obtain ⟨a, cap, rfl, _⟩ := id h
  clear h
  go_enter Try.func40, Try.ntmps40
  go_wp2_with fail
  refine (curAmong_any w _ w.heap.size _ bs 0 (w.heap.size + 1) 4 [0, 1, 2, -1] (by omega) (by simp) (by simp) (by omega) ((HC.out _).keep (Later.alloc _ _)) ?hl).mono ?_
  case hl =>
    intro i hi
    have h6 : i = 0 ∨ i = 1 ∨ i = 2 ∨ i = 3 := by simp at hi; omega
    rcases h6 with rfl | rfl | rfl | rfl <;> simp [go_sem]
  rintro e w1 ⟨k, rfl, _, hC, _⟩
  have HL := hid hC.later
  clear hC HC
  go_wp2_with fail
  go_ret
  exact ⟨k, rfl, HL.out⟩
def CisIntsC (base : World) (e : Ending) (w' : World) : Prop := ∃ u L t ws, e = .returned (.tuple #[u, t]) ∧ OwnCis base.heap.size w'.heap.size w' u L ∧ L.length ≤ 1000 ∧ OwnInts base.heap.size w'.heap.size w' t ws ∧ ws.length ≤ 1000 ∧ Later base w'
set_option maxRecDepth 20000 in
set_option maxHeartbeats 8000000 in
theorem drawFollowCircles_any (v : Value) (bs : List Int) (w : World) (h : BytesR w v bs) :
    Calls Try.prog 36 #[v] w fun e w' => CisIntsC w e w' := by
  have HC := hid (fun ty => Cur.newG w v bs h ty)
  obtain ⟨a, cap, rfl, _⟩ := id h
  clear h
  go_enter Try.func36, Try.ntmps36
  go_wp2_with fail
  refine (curConfig_any w _ w.heap.size _ bs 0 (by omega) (HC.out _)).mono ?_
  rintro e w1 ⟨u, zs, rfl, hZ, hzl, hC⟩
  obtain ⟨pz, cz, rfl, hcapz⟩ := hZ.shape
  have HZ := hid hZ
  have HC1 := hid hC
  have HB1 := hid (show w.heap.size < w1.heap.size from hC.ltG)
  obtain ⟨B, hB⟩ : ∃ B, w.heap.size = B := ⟨_, rfl⟩
  have HBB := hid hB
  obtain ⟨H1, hH1⟩ : ∃ B, w1.heap.size = B := ⟨_, rfl⟩
  obtain ⟨N, hN⟩ : ∃ B, zs.length = B := ⟨_, rfl⟩
  rw [hB] at HZ HC1 HB1 ⊢
  rw [hH1] at HZ HB1
  rw [hN] at hzl
  rw [hN] at HZ ⊢
  have HN := hid hN
  have HH1 := hid hH1
  have HZL := hid hzl
  clear hZ hC hcapz HC hB hH1 hN hzl
  go_wp2_with fail
  refine (curLitG_any w w1 B _ bs _ [0, 1, 2, 3, 6, 12, 40, 41] (by omega) (by simp) (by simp) HC1.out).mono ?_
  rintro e w2 ⟨n, rfl, hn, hC, hG⟩
  have n0 : 0 ≤ n ∧ n ≤ 41 := by simp at hn; omega
  have HC2 := hid hC
  have HZ2 := hid (show OwnCis (B + 1) H1 w2 (.slice pz N cz) zs from HZ.out.keep fun b h1 h2 => hG.block b (by rw [HH1.out]; exact h2) (fun e => by injection e with e; omega))
  have HS2 := hid (show H1 ≤ w2.heap.size by have := hG.size; rw [HH1.out] at this; exact this)
  clear hC hG hn
  go_wp2_with fail
  go_loopw [6, 7] (fun o k wr => ∃ (L : List Int) (j : Nat), k = .int .i64 j ∧ OwnInts H1 wr.heap.size wr o L ∧ L.length + j ≤ 41 ∧ Cur w wr B (.slice a bs.length cap) bs (300 + 2 * L.length) ∧ OwnCis (B + 1) H1 wr (.slice pz N cz) zs ∧ H1 ≤ wr.heap.size) (fun _ k _ => (intOf k).toNat)
  case atStart => exact ⟨[], n.toNat, by rw [Int.toNat_of_nonneg n0.1], ownInts_nilG _ _ _, by simp; omega, HC2.out.mono (by simp), HZ2.out, HS2.out⟩
  case round =>
    obtain ⟨L, j, rfl, hO, hl, hC, hZ, hS⟩ := hrel
    obtain ⟨p1, cc, rfl, hcap⟩ := hO.shape
    have HO := hid hO
    have HC := hid hC
    have HZ := hid hZ
    have HSr := hid hS
    clear hO hC hZ hS hcap
    cases j with
    | succ j =>
      have hj0 : (0 : Int) < ((j + 1 : Nat) : Int) := by omega
      go_wp2_with fail
      refine (curLitG_any w wr B _ bs _ [0, 1, 2, 3, 3] (by omega) (by simp) (by simp) HC.out).mono ?_
      rintro e w4 ⟨x, rfl, _, hC, hG⟩
      have HC4 := hid hC
      have HO4 := hid (show OwnInts H1 w4.heap.size w4 (.slice p1 L.length cc) L from (HO.out.keep fun b h1 h2 => hG.block b h2 (fun e => by injection e with e; have := HB1.out; omega)).wide (Nat.le_refl _) hG.size)
      have HZ4 := hid (show OwnCis (B + 1) H1 w4 (.slice pz N cz) zs from HZ.out.keep fun b h1 h2 => hG.block b (by have := HSr.out; omega) (fun e => by injection e with e; omega))
      have HS4 := hid (show H1 ≤ w4.heap.size from Nat.le_trans HSr.out hG.size)
      have HLN := hid (show L.length ≤ 1000000 by omega)
      clear hC hG
      go_wp2_with (at_builtin; refine wpList_pushG (by rfl) _ _ (by rfl) H1 w4 _ (.slice p1 L.length cc) L x (by rfl) HS4.out HO4.out HLN.out (by rfl) rfl ?_)
      intro g c w5 hO5 hG5 _
      have HC5 := hid (HC4.out.besideG HB1.out HO4.out.ownG hG5)
      have HZ5 := hid (show OwnCis (B + 1) H1 w5 (.slice pz N cz) zs from HZ4.out.keep fun b h1 h2 => hG5.block b (by have := HS4.out; omega) (fun e => by have := HO4.out.ownG b e.symm; omega))
      have HS5 := hid (show H1 ≤ w5.heap.size from Nat.le_trans HS4.out hG5.size)
      have HO5 := hid hO5
      clear hO5 hG5
      go_wp2_with fail
      go_roundw
      case rel => exact ⟨L ++ [x], j, by go_num, by simpa using HO5.out, by simp; omega, by have h := HC5.out; exact h.mono (by simp; omega), HZ5.out, HS5.out⟩
      case measure => simp [intOf]
    | zero =>
      have HC0 := hid (HC.out.mono (show 300 + 2 * L.length ≤ 400 by omega))
      have hL41 : L.length ≤ 41 := by omega
      have HLE := hid hL41
      clear HC hl
      obtain ⟨l, hll⟩ : ∃ l, L.length = l := ⟨_, rfl⟩
      have HLL := hid hll
      rw [hll] at HO hL41 ⊢
      by_cases h0 : 0 < l
      · have h0I : (0 : Int) < (l : Int) := by omega
        obtain ⟨g, rfl⟩ : ∃ g, p1 = some ⟨g, 0, none⟩ := by
          rcases HO.out.form with ⟨_, e⟩ | ⟨g, cap, e⟩
          · rw [e] at hll; simp at hll; omega
          · simp only [Value.slice.injEq] at e; exact ⟨g, e.1⟩
        clear hll
        go_wp2_with fail
        refine (curOneG_any w wr B _ bs _ 15 (by omega) (by omega) HC0.out).mono ?_
        rintro e w6 ⟨b1, rfl, hC, hG⟩
        have HC6 := hid hC
        have HO6 := hid (HO.out.keepG HB1.out hG)
        have HZ6 := hid (show OwnCis (B + 1) H1 w6 (.slice pz N cz) zs from HZ.out.keep fun b h1 h2 => hG.block b (by have := HSr.out; omega) (fun e => by injection e with e; omega))
        have HS6 := hid (show H1 ≤ w6.heap.size from Nat.le_trans HSr.out hG.size)
        clear hC hG
        cases b1
        · go_wp2_with fail
          go_ret2
          exact ⟨_, zs, _, L, rfl, HZ6.out.wide (by have := HBB.out; omega) HS6.out, by have := HN.out; have := HZL.out; omega, HO6.out.wide (by have := HBB.out; have := HB1.out; omega) (Nat.le_refl _), by have := HLE.out; omega, HC6.out.later⟩
        · go_wp2_with fail
          refine (curLitG_any w w6 B _ bs _ [-1, 4] (by omega) (by simp) (by simp) HC6.out).mono ?_
          rintro e w7 ⟨x, rfl, _, hC, hG⟩
          have HC7 := hid hC
          have HO7 := hid (HO6.out.keepG HB1.out hG)
          have HZ7 := hid (show OwnCis (B + 1) H1 w7 (.slice pz N cz) zs from HZ6.out.keep fun b h1 h2 => hG.block b (by have := HS6.out; omega) (fun e => by injection e with e; omega))
          have HS7 := hid (show H1 ≤ w7.heap.size from Nat.le_trans HS6.out hG.size)
          clear hC hG
          have hsto := storeG (k := 0) (zs := L) HC7.out (by rw [HLL.out]; exact HO7.out) HB1.out x
          rw [HLL.out] at hsto
          have HST := hid hsto
          have hgH := HO7.out.ownG g rfl
          have HZ8 := hid (show OwnCis (B + 1) H1 (w7.setCell ⟨g, 0, none⟩ (.int .i64 x)) (.slice pz N cz) zs from HZ7.out.keep fun b h1 h2 => heap_setCell_other w7 ⟨g, 0, none⟩ b (.int .i64 x) (show b ≠ g by omega))
          have hO7 : OwnInts H1 w7.heap.size w7 (.slice (some ⟨g, 0, none⟩) L.length cc) L := by rw [HLL.out]; exact HO7.out
          have k0 : w7.cell? ⟨g, 0, none⟩ = some (.int .i64 (L.getD 0 0)) := by
            have h1 : 0 < L.length := by rw [HLL.out]; exact h0
            rw [hO7.1.cellAt 0 (by omega)]
            simp [h1]
          have f0 : w7.frozen? ⟨g, 0, none⟩ = false := hO7.1.frozenAt 0
          clear hO7
          have HS8 := hid (show H1 ≤ (w7.setCell ⟨g, 0, none⟩ (.int .i64 x)).heap.size by simpa using HS7.out)
          clear hsto hgH
          go_wp2_with fail
          go_ret2
          exact ⟨_, zs, _, L.set 0 x, rfl, HZ8.out.wide (by have := HBB.out; omega) HS8.out, by have := HN.out; have := HZL.out; omega, HST.out.2.wide (by have := HBB.out; have := HB1.out; omega) (Nat.le_refl _), by have := HLE.out; simp; omega, HST.out.1.later⟩
      · have h0I : ¬ (0 : Int) < (l : Int) := by omega
        clear hll
        go_wp2_with fail
        go_ret2
        exact ⟨_, zs, _, L, rfl, HZ.out.wide (by have := HBB.out; omega) HSr.out, by have := HN.out; have := HZL.out; omega, HO.out.wide (by have := HBB.out; have := HB1.out; omega) (Nat.le_refl _), by have := HLE.out; omega, HC0.out.later⟩
end Go.Proofs.Ytoaopmafokoaoaa
