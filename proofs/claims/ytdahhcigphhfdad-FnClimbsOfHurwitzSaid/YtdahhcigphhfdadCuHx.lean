/- CuHw, CuHc, CuHb: in one text. -/
import Derived.Test.YtdahhcigphhfdadCuHv
import Derived.Test.YtdahhcigphhfdadHuLbx
import Derived.Test.YtdahhcigphhfdadWrQ
import Derived.Test.YtdahhcigphhfdadBasB
namespace Go.Proofs.Ytdahhcigphhfdad
open Go.RowKit


set_option maxRecDepth 20000 in
set_option maxHeartbeats 4000000 in
theorem drawIsHurwitz_any (v : Value) (bs : List Int) (w : World) (h : BytesR w v bs) :
    Calls Try.prog 40 #[v] w fun e w' => ListTwoG w e w' := by
  have HC := hid (fun ty => Cur.newG w v bs h ty)
  obtain ⟨a, cap, rfl, _⟩ := id h
  clear h
  go_enter Try.func40, Try.ntmps40
  go_wp2_with fail
  refine (curHurwitz_any w _ w.heap.size _ bs 0 (by omega) (HC.out _)).mono ?_
  rintro e w1 ⟨u, zs, α, β, rfl, ho, hl, hC⟩
  have HO := hid (ho.wide (show w.heap.size ≤ w.heap.size + 1 by omega) (Nat.le_refl _))
  have HL := hid hC.later
  clear ho hC
  go_wp2_with fail
  go_ret3
  exact ⟨u, zs, α, β, rfl, HO.out, hl, HL.out⟩
theorem drawWayDown_any (v : Value) (bs : List Int) (w : World) (h : BytesR w v bs) :
    Calls Try.prog 16 #[v] w fun e w' => ListTwoG w e w' := by
  have HC := hid (drawIsHurwitz_any v bs w h)
  clear h
  go_enter Try.func16, Try.ntmps16
  go_wp2_with fail
  refine HC.out.mono ?_
  rintro e w1 ⟨u, zs, α, β, rfl, ho, hl, hL⟩
  have HO := hid ho
  have HL := hid hL
  clear ho hL
  go_wp2_with fail
  go_ret3
  exact ⟨u, zs, α, β, rfl, HO.out, hl, HL.out⟩
theorem vSolves_as (v : Value) (zs : List Int) (a b : Int) (t : Bool) (w : World) (hs : (givenB a b && solB zs a b) = t) (h : Ints w v zs) :
    Calls Try.prog 14 #[v, .int .i64 a, .int .i64 b] w fun e w' => e = .returned (.bool t) ∧ Later w w' := by
  obtain ⟨b1, hb1⟩ : ∃ t, (isHuAns zs a b).getD false = t := ⟨_, rfl⟩
  obtain ⟨b2, hb2⟩ : ∃ t, (isHuAns zs a b).isSome = t := ⟨_, rfl⟩
  have HT := hid (show (b1 && b2) = t by rw [← hb1, ← hb2, isHu_and]; exact hs)
  have HI := hid (bool_as9 (implIsHurwitz_any v zs a b w h) hb1 hb2)
  clear h hs hb1 hb2
  cases b1 <;> cases b2
  all_goals
    go_enter Try.func14, Try.ntmps14
    go_wp2_with fail
    refine HI.out.mono ?_
    rintro e w1 ⟨rfl, hL⟩
    have HL := hid hL
    clear hL
    go_wp2_with fail
    go_ret
    exact ⟨by rw [← HT.out]; rfl, HL.out⟩


def ListFourG (base : World) (e : Ending) (w' : World) : Prop := ∃ u zs t ws, ∃ a b : Int, e = .returned (.tuple #[u, .int .i64 a, .int .i64 b, t]) ∧ OwnInts base.heap.size w'.heap.size w' u zs ∧ zs.length ≤ 4 ∧ OwnInts base.heap.size w'.heap.size w' t ws ∧ ws.length ≤ 50 ∧ Later base w'
set_option maxRecDepth 20000 in
set_option maxHeartbeats 8000000 in
theorem drawClimbHurwitz_any (v : Value) (bs : List Int) (w : World) (h : BytesR w v bs) :
    Calls Try.prog 25 #[v] w fun e w' => ListFourG w e w' := by
  obtain ⟨ii, hii, ii0, ii1, ii2⟩ := info_parts Try.infoInt
  have HC := hid (fun ty => Cur.newG w v bs h ty)
  obtain ⟨a, cap, rfl, _⟩ := id h
  clear h
  go_enter Try.func25, Try.ntmps25
  go_wp2_with fail
  refine (curHurwitz_any w _ w.heap.size _ bs 0 (by omega) (HC.out _)).mono ?_
  rintro e w1 ⟨u, zs, α, β, rfl, hZ, hzl, hC⟩
  obtain ⟨pz, cz, rfl, hcapz⟩ := hZ.shape
  have HZ := hid hZ
  have HC1 := hid hC
  have HB1 := hid (show w.heap.size < w1.heap.size from hC.ltG)
  obtain ⟨B, hB⟩ : ∃ B, w.heap.size = B := ⟨_, rfl⟩
  have HBB := hid hB
  obtain ⟨H1, hH1⟩ : ∃ B, w1.heap.size = B := ⟨_, rfl⟩
  obtain ⟨N, hN⟩ : ∃ B, zs.length = B := ⟨_, rfl⟩
  rw [hB] at HZ HC1 HB1 ⊢
  rw [hH1] at HZ HB1
  rw [hN] at hzl
  rw [hN] at HZ ⊢
  have HN := hid hN
  obtain ⟨q, hq⟩ : ∃ q, mostI 1 (N : Int) = q := ⟨_, rfl⟩
  have hq4 : q ≤ 1000 := by rw [← hq]; unfold mostI; split <;> omega
  have HQ := hid (fun w0 => l1Most2_any 1 (N : Int) w0)
  rw [hq] at HQ
  have HH1 := hid hH1
  clear hZ hC hcapz HC hB hH1 hN hq
  go_wp2_with fail
  refine (curPick_any w w1 B _ bs _ 6 (by omega) (by omega) HC1.out).mono ?_
  rintro e w2 ⟨n, rfl, n0, n1, hC, hG⟩
  have n2 : n ≤ 5 := by simpa using n1
  have HC2 := hid hC
  have HZ2 := hid (show OwnInts (B + 1) H1 w2 (.slice pz N cz) zs from HZ.out.keep fun b h1 h2 => hG.block b (by rw [HH1.out]; exact h2) (fun e => by injection e with e; omega))
  have HS2 := hid (show H1 ≤ w2.heap.size by have := hG.size; rw [HH1.out] at this; exact this)
  clear hC hG n1
  go_wp2_with fail
  go_loopw [10, 11] (fun o k wr => ∃ (L : List Int) (j : Nat), k = .int .i64 j ∧ OwnInts H1 wr.heap.size wr o L ∧ L.length + j ≤ 20 ∧ Cur w wr B (.slice a bs.length cap) bs (200 + 2 * L.length) ∧ OwnInts (B + 1) H1 wr (.slice pz N cz) zs ∧ H1 ≤ wr.heap.size) (fun _ k _ => (intOf k).toNat)
  case atStart => exact ⟨[], n.toNat, by rw [Int.toNat_of_nonneg n0], ownInts_nilG _ _ _, by simp; omega, HC2.out.mono (by simp), HZ2.out, HS2.out⟩
  case round =>
    obtain ⟨L, j, rfl, hO, hl, hC, hZ, hS⟩ := hrel
    obtain ⟨p1, cc, rfl, hcap⟩ := hO.shape
    have HO := hid hO
    have HC := hid hC
    have HZ := hid hZ
    have HSr := hid hS
    clear hO hC hZ hS hcap
    cases j with
    | succ j =>
      have hj0 : (0 : Int) < ((j + 1 : Nat) : Int) := by omega
      go_wp2_with (first | (go_at_call 54; refine (HQ.out _).mono ?_; rintro e w' ⟨rfl, rfl⟩))
      refine (curPick_any w wr B _ bs _ q (by omega) (by omega) HC.out).mono ?_
      rintro e w4 ⟨x, rfl, x0, x1, hC, hG⟩
      have HC4 := hid hC
      have HO4 := hid (show OwnInts H1 w4.heap.size w4 (.slice p1 L.length cc) L from (HO.out.keep fun b h1 h2 => hG.block b h2 (fun e => by injection e with e; have := HB1.out; omega)).wide (Nat.le_refl _) hG.size)
      have HZ4 := hid (show OwnInts (B + 1) H1 w4 (.slice pz N cz) zs from HZ.out.keep fun b h1 h2 => hG.block b (by have := HSr.out; omega) (fun e => by injection e with e; omega))
      have HS4 := hid (show H1 ≤ w4.heap.size from Nat.le_trans HSr.out hG.size)
      have HLN := hid (show L.length ≤ 1000000 by omega)
      clear hC hG x1
      go_wp2_with (at_builtin; refine wpList_pushG (by rfl) _ _ (by rfl) H1 w4 _ (.slice p1 L.length cc) L x (by rfl) HS4.out HO4.out HLN.out (by rfl) rfl ?_)
      intro g c w5 hO5 hG5 _
      have HC5 := hid (HC4.out.besideG HB1.out HO4.out.ownG hG5)
      have HZ5 := hid (show OwnInts (B + 1) H1 w5 (.slice pz N cz) zs from HZ4.out.keep fun b h1 h2 => hG5.block b (by have := HS4.out; omega) (fun e => by have := HO4.out.ownG b e.symm; omega))
      have HS5 := hid (show H1 ≤ w5.heap.size from Nat.le_trans HS4.out hG5.size)
      have HO5 := hid hO5
      clear hO5 hG5
      go_wp2_with fail
      go_roundw
      case rel => exact ⟨L ++ [x], j, by go_num, by simpa using HO5.out, by simp; omega, by have h := HC5.out; exact h.mono (by simp; omega), HZ5.out, HS5.out⟩
      case measure => simp [intOf]
    | zero =>
      have HC0 := hid (HC.out.mono (show 200 + 2 * L.length ≤ 300 by omega))
      have hL20 : L.length ≤ 20 := by omega
      clear HC hl
      go_wp2_with fail
      refine (curPick_any w wr B _ bs _ 14 (by omega) (by omega) HC0.out).mono ?_
      rintro e w2' ⟨c, rfl, c0, c1, hC, hG⟩
      have HC2 := hid hC
      have HO2 := hid (HO.out.keepG HB1.out hG)
      have HZ2 := hid (show OwnInts (B + 1) H1 w2' (.slice pz N cz) zs from HZ.out.keep fun b h1 h2 => hG.block b (by have := HSr.out; omega) (fun e => by injection e with e; omega))
      have HS2 := hid (show H1 ≤ w2'.heap.size from Nat.le_trans HSr.out hG.size)
      clear hC hG c1
      by_cases e0 : c = 0
      · subst e0
        go_wp2_with fail
        refine (curLitG_any w w2' B _ bs _ [-1, 3, 4] (by omega) (by simp) (by simp) HC2.out).mono ?_
        rintro e w3 ⟨x, rfl, _, hC, hG⟩
        have HC3 := hid hC
        have HO3 := hid (HO2.out.keepG HB1.out hG)
        have HZ3 := hid (show OwnInts (B + 1) H1 w3 (.slice pz N cz) zs from HZ2.out.keep fun b h1 h2 => hG.block b (by have := HS2.out; omega) (fun e => by injection e with e; omega))
        have HS3 := hid (show H1 ≤ w3.heap.size from Nat.le_trans HS2.out hG.size)
        have HLN := hid (show L.length ≤ 1000000 by omega)
        clear hC hG
        go_wp2_with (at_builtin; refine wpList_pushG (by rfl) _ _ (by rfl) H1 w3 _ (.slice p1 L.length cc) L x (by rfl) HS3.out HO3.out HLN.out (by rfl) rfl ?_)
        intro g c w5 hO5 hG5 _
        have HC5 := hid (HC3.out.besideG HB1.out HO3.out.ownG hG5)
        have HZ5 := hid (show OwnInts (B + 1) H1 w5 (.slice pz N cz) zs from HZ3.out.keep fun b h1 h2 => hG5.block b (by have := HS3.out; omega) (fun e => by have := HO3.out.ownG b e.symm; omega))
        have HS5 := hid (show H1 ≤ w5.heap.size from Nat.le_trans HS3.out hG5.size)
        have HO5 := hid hO5
        clear hO5 hG5
        go_wp2_with fail
        refine bodyPost_ret (results_fourG rfl _ _ _) rfl ?_
        exact ⟨_, zs, _, L ++ [x], _, _, rfl, HZ5.out.wide (by have := HBB.out; omega) HS5.out, by have := HN.out; omega, (by simpa using HO5.out.wide (show w.heap.size ≤ H1 by have := HBB.out; have := HB1.out; omega) (Nat.le_refl _)), by simp; omega, HC5.out.later⟩
      · have e0' : (c == 0) = false := by simp [e0]
        by_cases e1 : c = 1
        · subst e1
          go_wp2_with fail
          refine (curPick_any w w2' B _ bs _ 2 (by omega) (by omega) HC2.out).mono ?_
          rintro e w3 ⟨x, rfl, x0, x1, hC, hG⟩
          have x2 : x ≤ 1 := by simpa using x1
          have HC3 := hid hC
          have HZ3 := hid (show OwnInts (B + 1) H1 w3 (.slice pz N cz) zs from HZ2.out.keep fun b h1 h2 => hG.block b (by have := HS2.out; omega) (fun e => by injection e with e; omega))
          have HB3 := hid (show H1 ≤ w3.heap.size from Nat.le_trans HS2.out hG.size)
          clear hC hG x1
          obtain ⟨k, hk⟩ : ∃ k : Nat, 40 + x = (k : Int) := ⟨(40 + x).toNat, by omega⟩
          have hkw := wrapQ (q := (k : Int)) (by omega)
          have hk1 : k ≤ 41 := by omega
          go_wp2_with (first | (at_make; refine wpList_make_full _ rfl _ _ 24 rfl w3.heap.size 3 ii (.int .i64 0) 1 Try.underlying24 hii ii0 ii1 _ _ _ _ k rfl rfl rfl rfl ?b2 ?b3 ?b4 ?_))
          case b2 => rw [ii2]; omega
          case b3 => unfold maxLen; omega
          case b4 => exact Nat.le_refl _
          intro w5 hown hgrow
          have HL5 := hid (show Later w3 w5 from (Below.refl _ _).grown hgrow (Nat.le_refl _) (by simp))
          have HM := hid (show OwnInts w3.heap.size w5.heap.size w5 (.slice (some ⟨w3.heap.size, 0, none⟩) k k) (List.replicate k 0) from OwnInts.ofH hown (by rw [toList_madeCells_one]; simp))
          have HZ5 := hid (show OwnInts (B + 1) H1 w5 (.slice pz N cz) zs from HZ3.out.keep fun b h1 h2 => hgrow.block b (by have := HB3.out; omega) (fun e => by cases e))
          have HS5 := hid (show H1 ≤ w5.heap.size from Nat.le_trans HB3.out hgrow.size)
          clear hown hgrow
          go_wp2_with fail
          refine bodyPost_ret (results_fourG rfl _ _ _) rfl ?_
          exact ⟨_, zs, _, List.replicate k 0, _, _, rfl, HZ5.out.wide (by have := HBB.out; omega) HS5.out, by have := HN.out; omega, HM.out.wide (by have := HBB.out; have := HB1.out; have := HB3.out; omega) (Nat.le_refl _), by simp; omega, (HC3.out.keep HL5.out).later⟩
        · have e1' : (c == 1) = false := by simp [e1]
          go_wp2_with fail
          refine bodyPost_ret (results_fourG rfl _ _ _) rfl ?_
          exact ⟨_, zs, _, L, _, _, rfl, HZ2.out.wide (by have := HBB.out; omega) HS2.out, by have := HN.out; omega, HO2.out.wide (by have := HBB.out; have := HB1.out; omega) (Nat.le_refl _), by omega, HC2.out.later⟩


theorem drawBranchesOf_any (v : Value) (bs : List Int) (w : World) (h : BytesR w v bs) :
    Calls Try.prog 27 #[v] w fun e w' => ListTwoG w e w' := by
  have HC := hid (drawIsHurwitz_any v bs w h)
  clear h
  go_enter Try.func27, Try.ntmps27
  go_wp2_with fail
  refine HC.out.mono ?_
  rintro e w1 ⟨u, zs, α, β, rfl, ho, hl, hL⟩
  have HO := hid ho
  have HL := hid hL
  clear ho hL
  go_wp2_with fail
  go_ret3
  exact ⟨u, zs, α, β, rfl, HO.out, hl, HL.out⟩
set_option maxRecDepth 20000 in
set_option maxHeartbeats 2000000 in
/-- the first place where two lists differ decides -/
theorem vBefore_lex (u v : Value) (xs ys : List Int) (w : World) (d : Nat) (hx : Ints w u xs) (hy : Ints w v ys) (h1 : d < xs.length) (h2 : d < ys.length) (heq : ∀ k, k < d → xs.getD k 0 = ys.getD k 0) (hlt : xs.getD d 0 < ys.getD d 0) :
    Calls Try.prog 30 #[u, v] w fun e w' => e = .returned (.bool true) ∧ ∃ n, w' = w.drewN n := by
  obtain ⟨a, cap, rfl, hl, hc⟩ := hx
  obtain ⟨b, cap2, rfl, hl2, hc2⟩ := hy
  have HC := hid hc
  have HC2 := hid hc2
  have HEQ := hid heq
  have HLT := hid hlt
  obtain ⟨N, hN⟩ : ∃ N, xs.length = N := ⟨_, rfl⟩
  obtain ⟨M, hM⟩ : ∃ N, ys.length = N := ⟨_, rfl⟩
  rw [hN] at HC h1 hl ⊢
  rw [hM] at HC2 h2 ⊢
  have H1 := hid h1
  have H2 := hid h2
  clear hc hc2 heq hlt hl2 hN hM h1 h2
  go_enter Try.func30, Try.ntmps30
  go_wp2_with fail
  go_loopw [5] (fun i wr => ∃ k n : Nat, k ≤ d ∧ i = .int .i64 k ∧ wr = w.drewN n) (fun i _ => d - (intOf i).toNat)
  case atStart => exact ⟨0, 0, Nat.zero_le _, rfl, rfl⟩
  case round =>
    obtain ⟨k, n, hk, rfl, rfl⟩ := hrel
    have hk1 : k < N := by have := H1.out; omega
    have hk2 : k < M := by have := H2.out; omega
    obtain ⟨ad, rfl, hcell⟩ := HC.out k hk1
    obtain ⟨ad2, rfl, hcell2⟩ := HC2.out k hk2
    have hi1 : (k : Int) < (N : Int) := by omega
    have hi2 : (k : Int) < (M : Int) := by omega
    by_cases hlt : k < d
    · have he := HEQ.out k hlt
      obtain ⟨z, hz⟩ : ∃ z, ys.getD k 0 = z := ⟨_, rfl⟩
      rw [he, hz] at hcell
      rw [hz] at hcell2
      have hb : (z != z) = false := by simp
      clear hz he
      go_wp2_with fail
      go_quiet (fail)
      go_wp2_with fail
      go_roundw
      case rel => exact ⟨k + 1, n + nq, hlt, by go_num, by simp⟩
      case measure => simp [intOf]; omega
    · obtain rfl : k = d := by omega
      have hl := HLT.out
      obtain ⟨y, hy⟩ : ∃ z, ys.getD k 0 = z := ⟨_, rfl⟩
      obtain ⟨x, hx⟩ : ∃ z, xs.getD k 0 = z := ⟨_, rfl⟩
      rw [hx] at hcell hl
      rw [hy] at hcell2 hl
      have hb : (x != y) = true := by simp; omega
      clear hx hy hlt
      go_wp2_with fail
      go_quiet (fail)
      go_wp2_with fail
      go_quiet (fail)
      go_wp2_with fail
      go_ret
      exact ⟨by simp, _, by simp; rfl⟩
end Go.Proofs.Ytdahhcigphhfdad
