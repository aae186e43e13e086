/- CuQe, CuQf: in one text. -/
import Derived.Test.YtoaopmafokoaoabCuQd
import Derived.Test.YtoaopmafokoaoabAsG
namespace Go.Proofs.Ytoaopmafokoaoab
open Go.RowKit


set_option maxRecDepth 20000 in
set_option maxHeartbeats 4000000 in
theorem drawIsQuad_any (v : Value) (bs : List Int) (w : World) (h : BytesR w v bs) :
    Calls Try.prog 49 #[v] w fun e w' => OneListG w e w' := by
  have HC := hid (fun ty => Cur.newG w v bs h ty)
  obtain ⟨a, cap, rfl, _⟩ := id h
  clear h
  go_enter Try.func49, Try.ntmps49
  go_wp2_with fail
  refine (curQuad_any w _ w.heap.size _ bs 0 (by omega) (HC.out _)).mono ?_
  rintro e w1 ⟨u, zs, rfl, ho, hl, hC⟩
  have HO := hid (show OwnInts w.heap.size w1.heap.size w1 u zs from ho.wide (by omega) (Nat.le_refl _))
  have HL := hid hC.later
  clear ho hC
  go_wp2_with fail
  go_ret
  exact ⟨u, zs, rfl, HO.out, hl, HL.out⟩
theorem drawDownPath_any (v : Value) (bs : List Int) (w : World) (h : BytesR w v bs) :
    Calls Try.prog 7 #[v] w fun e w' => OneListG w e w' := by
  have HC := hid (drawIsQuad_any v bs w h)
  clear h
  go_enter Try.func7, Try.ntmps7
  go_wp2_with fail
  refine HC.out.mono ?_
  rintro e w1 ⟨u, zs, rfl, ho, hl, hL⟩
  have HO := hid ho
  have HL := hid hL
  clear ho hL
  go_wp2_with fail
  go_ret
  exact ⟨u, zs, rfl, HO.out, hl, HL.out⟩
theorem drawIsRoot_any (v : Value) (bs : List Int) (w : World) (h : BytesR w v bs) :
    Calls Try.prog 25 #[v] w fun e w' => OneListG w e w' := by
  have HC := hid (drawIsQuad_any v bs w h)
  clear h
  go_enter Try.func25, Try.ntmps25
  go_wp2_with fail
  refine HC.out.mono ?_
  rintro e w1 ⟨u, zs, rfl, ho, hl, hL⟩
  have HO := hid ho
  have HL := hid hL
  clear ho hL
  go_wp2_with fail
  go_ret
  exact ⟨u, zs, rfl, HO.out, hl, HL.out⟩
set_option maxRecDepth 20000 in
set_option maxHeartbeats 4000000 in
theorem drawSwapAt_any (v : Value) (bs : List Int) (w : World) (h : BytesR w v bs) :
    Calls Try.prog 22 #[v] w fun e w' => ListNumM w e w' := by
  have HC := hid (fun ty => Cur.newG w v bs h ty)
  obtain ⟨a, cap, rfl, _⟩ := id h
  clear h
  go_enter Try.func22, Try.ntmps22
  go_wp2_with fail
  refine (curQuad_any w _ w.heap.size _ bs 0 (by omega) (HC.out _)).mono ?_
  rintro e w1 ⟨u, zs, rfl, ho, hl, hC⟩
  have HO := hid ho
  have HC1 := hid hC
  clear ho hC
  go_wp2_with fail
  refine (curLitG_any w w1 w.heap.size _ bs _ [0, 1, 2, 3, 3, 4, -1] (by omega) (by simp) (by simp) HC1.out).mono ?_
  rintro e w2 ⟨k, rfl, _, hC, hG⟩
  have HO2 := hid ((HO.out.keepG (Nat.lt_succ_self _) hG).wide (show w.heap.size ≤ w.heap.size + 1 by omega) (Nat.le_refl _))
  have HL2 := hid hC.later
  clear hC hG
  go_wp2_with fail
  go_ret2
  exact ⟨u, zs, k, rfl, HO2.out, hl, HL2.out⟩
def SumOK (zs : List Int) : Prop := ∀ z ∈ zs, -1000000 ≤ z ∧ z ≤ 1000000
theorem suQ_step {zs : List Int} {k : Nat} (h : k < zs.length) : (zs.take (k + 1)).sum = (zs.take k).sum + zs.getD k 0 := by
  rw [take_snoc zs k h, List.sum_append, getD_at zs k h]
  simp
theorem suQ_bd {zs : List Int} (h : SumOK zs) : ∀ k, k ≤ zs.length → -(k * 1000000) ≤ (zs.take k).sum ∧ (zs.take k).sum ≤ k * 1000000 := by
  intro k
  induction k with
  | zero => intro _; simp
  | succ k ih =>
    intro hk
    obtain ⟨h1, h2⟩ := ih (by omega)
    have hz := h (zs.getD k 0) (by rw [getD_at zs k (by omega)]; exact List.getElem_mem _)
    rw [suQ_step (by omega)]
    omega
theorem apB_sumOK {zs : List Int} (h : apB zs = true) : SumOK zs := by
  intro z hz
  obtain ⟨i, hi, rfl⟩ := List.getElem_of_mem hz
  have := apB_mem h i (by have := apB_hlen h; omega)
  rw [getD_at zs i hi] at this
  omega
set_option maxHeartbeats 1000000 in
theorem dSumQ_any (v : Value) (zs : List Int) (w : World) (hl : zs.length ≤ 4) (h5 : SumOK zs) (h : Ints w v zs) :
    Calls Try.prog 19 #[v] w fun e w' => e = .returned (.int .i64 (zs.sum)) ∧ w = w' := by
  obtain ⟨a, cap, rfl, _, hc⟩ := h
  have HC := hid hc
  have H5 := hid h5
  obtain ⟨N, hN⟩ : ∃ n, zs.length = n := ⟨_, rfl⟩
  have HN := hid hN
  rw [hN] at hl ⊢
  clear hc h5 hN
  go_enter Try.func19, Try.ntmps19
  go_wp2_with fail
  go_loop [3, 8] (fun s i => ∃ k : Nat, k ≤ N ∧ i = .int .i64 k ∧ s = .int .i64 ((zs.take k).sum)) (fun _ i => N - (intOf i).toNat)
  case atStart => exact ⟨0, Nat.zero_le _, rfl, rfl⟩
  case round =>
    obtain ⟨k, hk, rfl, rfl⟩ := hrel
    by_cases hlt : k < N
    · have hltI : (k : Int) < (N : Int) := by omega
      obtain ⟨ad, rfl, hcell⟩ := HC.out k (by rw [HN.out]; exact hlt)
      obtain ⟨b1, b2⟩ := suQ_bd H5.out (k + 1) (by rw [HN.out]; omega)
      have hst := suQ_step (zs := zs) (k := k) (by rw [HN.out]; exact hlt)
      obtain ⟨z, hz⟩ : ∃ z, zs.getD k 0 = z := ⟨_, rfl⟩
      rw [hz] at hcell hst
      obtain ⟨s, hs⟩ : ∃ s, (zs.take k).sum = s := ⟨_, rfl⟩
      rw [hs] at hst ⊢
      have hsw := wrapQ (q := s + z) (by omega)
      have HST := hid hst
      clear hz hs hst b1 b2
      go_wp2_with fail
      go_round
      case rel => exact ⟨k + 1, by omega, by go_num, by rw [HST.out]⟩
      case measure => simp [intOf]; omega
    · have hke : k = N := by omega
      have e : (zs.take k).sum = zs.sum := by rw [hke, ← HN.out, List.take_length]
      rw [e]
      go_wp2_with fail
      go_ret
      exact ⟨rfl, rfl⟩


def slLenQ : Value → Nat
  | .slice _ n _ => n
  | _ => 0
def TwoListsQ (base : World) (e : Ending) (w' : World) : Prop := ∃ u zs t ws, e = .returned (.tuple #[u, t]) ∧ OwnInts base.heap.size w'.heap.size w' u zs ∧ zs.length ≤ 1000 ∧ OwnInts base.heap.size w'.heap.size w' t ws ∧ ws.length ≤ 1000 ∧ Later base w'
set_option maxRecDepth 20000 in
set_option maxHeartbeats 8000000 in
theorem drawFollowSwaps_any (v : Value) (bs : List Int) (w : World) (h : BytesR w v bs) :
    Calls Try.prog 36 #[v] w fun e w' => TwoListsQ w e w' := by
  have HC := hid (fun ty => Cur.newG w v bs h ty)
  obtain ⟨a, cap, rfl, _⟩ := id h
  clear h
  go_enter Try.func36, Try.ntmps36
  go_wp2_with fail
  refine (curQuad_any w _ w.heap.size _ bs 0 (by omega) (HC.out _)).mono ?_
  rintro e w1 ⟨u, zs, rfl, hZ, hzl, hC⟩
  obtain ⟨pz, cz, rfl, hcapz⟩ := hZ.shape
  have HZ := hid hZ
  have HC1 := hid hC
  have HB1 := hid (show w.heap.size < w1.heap.size from hC.ltG)
  obtain ⟨B, hB⟩ : ∃ B, w.heap.size = B := ⟨_, rfl⟩
  have HBB := hid hB
  obtain ⟨H1, hH1⟩ : ∃ B, w1.heap.size = B := ⟨_, rfl⟩
  obtain ⟨N, hN⟩ : ∃ B, zs.length = B := ⟨_, rfl⟩
  rw [hB] at HZ HC1 HB1 ⊢
  rw [hH1] at HZ HB1
  rw [hN] at hzl
  rw [hN] at HZ ⊢
  have HN := hid hN
  have HH1 := hid hH1
  have HZL := hid hzl
  clear hZ hC hcapz HC hB hH1 hN hzl
  go_wp2_with fail
  refine (curLitG_any w w1 B _ bs _ [0, 1, 2, 3, 5, 8] (by omega) (by simp) (by simp) HC1.out).mono ?_
  rintro e w2 ⟨n, rfl, hn, hC, hG⟩
  have n0 : 0 ≤ n ∧ n ≤ 8 := by simp at hn; omega
  have HC2 := hid hC
  have HZ2 := hid (show OwnInts (B + 1) H1 w2 (.slice pz N cz) zs from HZ.out.keep fun b h1 h2 => hG.block b (by rw [HH1.out]; exact h2) (fun e => by injection e with e; omega))
  have HS2 := hid (show H1 ≤ w2.heap.size by have := hG.size; rw [HH1.out] at this; exact this)
  clear hC hG hn
  go_wp2_with fail
  go_loopw [6, 7] (fun o k wr => ∃ (L : List Int) (j : Nat), k = .int .i64 j ∧ OwnInts H1 wr.heap.size wr o L ∧ L.length + j ≤ 20 ∧ Cur w wr B (.slice a bs.length cap) bs (300 + 2 * L.length) ∧ OwnInts (B + 1) H1 wr (.slice pz N cz) zs ∧ H1 ≤ wr.heap.size) (fun _ k _ => (intOf k).toNat)
  case atStart => exact ⟨[], n.toNat, by rw [Int.toNat_of_nonneg n0.1], ownInts_nilG _ _ _, by simp; omega, HC2.out.mono (by simp), HZ2.out, HS2.out⟩
  case round =>
    obtain ⟨L, j, rfl, hO, hl, hC, hZ, hS⟩ := hrel
    obtain ⟨p1, cc, rfl, hcap⟩ := hO.shape
    have HO := hid hO
    have HC := hid hC
    have HZ := hid hZ
    have HSr := hid hS
    clear hO hC hZ hS hcap
    cases j with
    | succ j =>
      have hj0 : (0 : Int) < ((j + 1 : Nat) : Int) := by omega
      go_wp2_with fail
      refine (curPick_any w wr B _ bs _ 4 (by omega) (by omega) HC.out).mono ?_
      rintro e w4 ⟨x, rfl, x0, x1, hC, hG⟩
      have HC4 := hid hC
      have HO4 := hid (show OwnInts H1 w4.heap.size w4 (.slice p1 L.length cc) L from (HO.out.keep fun b h1 h2 => hG.block b h2 (fun e => by injection e with e; have := HB1.out; omega)).wide (Nat.le_refl _) hG.size)
      have HZ4 := hid (show OwnInts (B + 1) H1 w4 (.slice pz N cz) zs from HZ.out.keep fun b h1 h2 => hG.block b (by have := HSr.out; omega) (fun e => by injection e with e; omega))
      have HS4 := hid (show H1 ≤ w4.heap.size from Nat.le_trans HSr.out hG.size)
      have HLN := hid (show L.length ≤ 1000000 by omega)
      clear hC hG x1
      go_wp2_with (at_builtin; refine wpList_pushG (by rfl) _ _ (by rfl) H1 w4 _ (.slice p1 L.length cc) L x (by rfl) HS4.out HO4.out HLN.out (by rfl) rfl ?_)
      intro g c w5 hO5 hG5 _
      have HC5 := hid (HC4.out.besideG HB1.out HO4.out.ownG hG5)
      have HZ5 := hid (show OwnInts (B + 1) H1 w5 (.slice pz N cz) zs from HZ4.out.keep fun b h1 h2 => hG5.block b (by have := HS4.out; omega) (fun e => by have := HO4.out.ownG b e.symm; omega))
      have HS5 := hid (show H1 ≤ w5.heap.size from Nat.le_trans HS4.out hG5.size)
      have HO5 := hid hO5
      clear hO5 hG5
      go_wp2_with fail
      go_roundw
      case rel => exact ⟨L ++ [x], j, by go_num, by simpa using HO5.out, by simp; omega, by have h := HC5.out; exact h.mono (by simp; omega), HZ5.out, HS5.out⟩
      case measure => simp [intOf]
    | zero =>
      have HC0 := hid (HC.out.mono (show 300 + 2 * L.length ≤ 400 by omega))
      have hL20 : L.length ≤ 20 := by omega
      clear HC hl
      go_wp2_with fail
      refine (curOneG_any w wr B _ bs _ 15 (by omega) (by omega) HC0.out).mono ?_
      rintro e w2' ⟨b1, rfl, hC, hG⟩
      have HC2 := hid hC
      have HO2 := hid (HO.out.keepG HB1.out hG)
      have HZ2 := hid (show OwnInts (B + 1) H1 w2' (.slice pz N cz) zs from HZ.out.keep fun b h1 h2 => hG.block b (by have := HSr.out; omega) (fun e => by injection e with e; omega))
      have HS2 := hid (show H1 ≤ w2'.heap.size from Nat.le_trans HSr.out hG.size)
      clear hC hG
      go_upto_if 26 with fail
      go_cut [6] (fun o wx => ∃ L : List Int, OwnInts H1 wx.heap.size wx o L ∧ L.length ≤ 30 ∧ Cur w wx B (.slice a bs.length cap) bs 450 ∧ OwnInts (B + 1) H1 wx (.slice pz N cz) zs ∧ H1 ≤ wx.heap.size)
      case first =>
        cases b1
        · go_wp2_with fail
          go_meet
          case rel => exact ⟨L, HO2.out, by omega, HC2.out.mono (by omega), HZ2.out, HS2.out⟩
        · go_wp2_with fail
          refine (curLitG_any w w2' B _ bs _ [-1, 4] (by omega) (by simp) (by simp) HC2.out).mono ?_
          rintro e w3 ⟨x, rfl, _, hC, hG⟩
          have HC3 := hid hC
          have HO3 := hid (HO2.out.keepG HB1.out hG)
          have HZ3 := hid (show OwnInts (B + 1) H1 w3 (.slice pz N cz) zs from HZ2.out.keep fun b h1 h2 => hG.block b (by have := HS2.out; omega) (fun e => by injection e with e; omega))
          have HS3 := hid (show H1 ≤ w3.heap.size from Nat.le_trans HS2.out hG.size)
          have HLN := hid (show L.length ≤ 1000000 by omega)
          clear hC hG
          go_wp2_with (at_builtin; refine wpList_pushG (by rfl) _ _ (by rfl) H1 w3 _ (.slice p1 L.length cc) L x (by rfl) HS3.out HO3.out HLN.out (by rfl) rfl ?_)
          intro g c w5 hO5 hG5 _
          have HC5 := hid (HC3.out.besideG HB1.out HO3.out.ownG hG5)
          have HZ5 := hid (show OwnInts (B + 1) H1 w5 (.slice pz N cz) zs from HZ3.out.keep fun b h1 h2 => hG5.block b (by have := HS3.out; omega) (fun e => by have := HO3.out.ownG b e.symm; omega))
          have HS5 := hid (show H1 ≤ w5.heap.size from Nat.le_trans HS3.out hG5.size)
          have HO5 := hid hO5
          clear hO5 hG5
          go_wp2_with fail
          go_meet
          case rel => exact ⟨L ++ [x], by simpa using HO5.out, by simp; omega, HC5.out.mono (by omega), HZ5.out, HS5.out⟩
      case rest =>
      obtain ⟨L2, hO, hl2, hC, hZ, hS⟩ := hcut
      obtain ⟨p2, cc2, rfl, hcap⟩ := hO.shape
      have HO := hid hO
      have HC := hid hC
      have HZ := hid hZ
      have HSr := hid hS
      clear hO hC hZ hS hcap HC0 HC2 HO2 HZ2 HS2
      go_wp2_with fail
      refine (curOneG_any w _ B _ bs _ 25 (by omega) (by omega) HC.out).mono ?_
      rintro e w6 ⟨b2, rfl, hC, hG⟩
      have HC6 := hid hC
      have HO6 := hid (HO.out.keepG HB1.out hG)
      have HZ6 := hid (show OwnInts (B + 1) H1 w6 (.slice pz N cz) zs from HZ.out.keep fun b h1 h2 => hG.block b (by have := HSr.out; omega) (fun e => by injection e with e; omega))
      have HS6 := hid (show H1 ≤ w6.heap.size from Nat.le_trans HSr.out hG.size)
      clear hC hG HC HO HZ HSr
      cases b2
      · go_wp2_with fail
        go_ret2
        exact ⟨_, zs, _, L2, rfl, HZ6.out.wide (by have := HBB.out; omega) HS6.out, by have := HN.out; have := HZL.out; omega, HO6.out.wide (by have := HBB.out; have := HB1.out; omega) (Nat.le_refl _), by omega, HC6.out.later⟩
      · go_wp2_with fail
        go_loopw [6] (fun o wr => ∃ L : List Int, OwnInts H1 wr.heap.size wr o L ∧ L.length ≤ 300 ∧ Cur w wr B (.slice a bs.length cap) bs (500 + 2 * L.length) ∧ OwnInts (B + 1) H1 wr (.slice pz N cz) zs ∧ H1 ≤ wr.heap.size) (fun o _ => 400 - slLenQ o)
        case atStart => exact ⟨L2, HO6.out, by omega, HC6.out.mono (by omega), HZ6.out, HS6.out⟩
        case round =>
          obtain ⟨L3, hO, hl3, hC, hZ, hS⟩ := hrel
          obtain ⟨p3, cc3, rfl, hcap⟩ := hO.shape
          have HO := hid hO
          have HC := hid hC
          have HZ := hid hZ
          have HSr := hid hS
          clear hO hC hZ hS hcap
          go_wp2_with fail
          refine (curPick_any w wr B _ bs _ 2 (by omega) (by omega) HC.out).mono ?_
          rintro e w7 ⟨x, rfl, x0, x1, hC, hG⟩
          have x2 : x ≤ 1 := by simpa using x1
          have HC7 := hid hC
          have HO7 := hid (HO.out.keepG HB1.out hG)
          have HZ7 := hid (show OwnInts (B + 1) H1 w7 (.slice pz N cz) zs from HZ.out.keep fun b h1 h2 => hG.block b (by have := HSr.out; omega) (fun e => by injection e with e; omega))
          have HS7 := hid (show H1 ≤ w7.heap.size from Nat.le_trans HSr.out hG.size)
          clear hC hG x1
          obtain ⟨k, hk⟩ : ∃ k : Nat, 200 + x = (k : Int) := ⟨(200 + x).toNat, by omega⟩
          have hkw := wrapQ (q := (k : Int)) (by omega)
          have hk1 : k ≤ 201 := by omega
          obtain ⟨l, hl⟩ : ∃ l, L3.length = l := ⟨_, rfl⟩
          have HLe := hid hl
          rw [hl] at HO7 hl3 ⊢
          clear hl
          by_cases hlk : l < k
          · have hlkI : (l : Int) < (k : Int) := by omega
            have HLN := hid (show L3.length ≤ 1000000 by rw [HLe.out]; omega)
            go_wp2_with (at_builtin; refine wpList_pushG (by rfl) _ _ (by rfl) H1 w7 _ (.slice p3 l cc3) L3 1 (by rfl) HS7.out HO7.out HLN.out (by rfl) rfl ?_)
            intro g c w5 hO5 hG5 _
            have HC5 := hid (HC7.out.besideG HB1.out HO7.out.ownG hG5)
            have HZ5 := hid (show OwnInts (B + 1) H1 w5 (.slice pz N cz) zs from HZ7.out.keep fun b h1 h2 => hG5.block b (by have := HS7.out; omega) (fun e => by have := HO7.out.ownG b e.symm; omega))
            have HS5 := hid (show H1 ≤ w5.heap.size from Nat.le_trans HS7.out hG5.size)
            have HO5 := hid hO5
            clear hO5 hG5
            rw [HLe.out] at HO5 ⊢
            go_wp2_with fail
            go_roundw
            case rel => exact ⟨L3 ++ [1], by simpa [HLe.out] using HO5.out, by have := HLe.out; simp; omega, HC5.out.mono (by have := HLe.out; simp; omega), HZ5.out, HS5.out⟩
            case measure => have := HLe.out; simp [slLenQ]; omega
          · have hlkI : ¬ (l : Int) < (k : Int) := by omega
            go_wp2_with fail
            go_ret2
            exact ⟨_, zs, _, L3, rfl, HZ7.out.wide (by have := HBB.out; omega) HS7.out, by have := HN.out; have := HZL.out; omega, HO7.out.wide (by have := HBB.out; have := HB1.out; omega) (Nat.le_refl _), by have := HLe.out; omega, HC7.out.later⟩
end Go.Proofs.Ytoaopmafokoaoab
