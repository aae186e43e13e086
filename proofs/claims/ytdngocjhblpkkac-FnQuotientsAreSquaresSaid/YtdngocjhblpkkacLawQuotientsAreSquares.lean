/- The walk of the law FnQuotientsAreSquares. -/
import Derived.Test.YtdngocjhblpkkacCuL
import Derived.Test.YtdngocjhblpkkacCuQ
import Derived.Test.YtdngocjhblpkkacJqC
import Derived.Test.YtdngocjhblpkkacJpR
import Derived.Test.YtdngocjhblpkkacJuT
namespace Go.Proofs.Ytdngocjhblpkkac
open Go.RowKit

theorem add_atQ (a : Addr) (i : Nat) : a.add (i + 1) = ⟨a.block, a.off + (i + 1), none⟩ := by simp [Addr.add]
theorem Ints.twoJ {w : World} {v : Value} {a b : Int} (h : Ints w v [a, b]) :
    ∃ ad cap, v = .slice (some ad) 2 cap ∧ w.cell? ad = some (.int .i64 a) ∧ w.cell? ⟨ad.block, ad.off + 1, none⟩ = some (.int .i64 b) := by
  obtain ⟨p, cap, rfl, hl, hc⟩ := h
  obtain ⟨ad, rfl, h0⟩ := hc 0 (by simp)
  obtain ⟨ad1, e1, h1⟩ := hc 1 (by simp)
  obtain rfl : ad = ad1 := by simpa using e1
  exact ⟨ad, cap, rfl, by simpa [Addr.add] using h0, by simpa [Addr.add] using h1⟩
theorem rowTwo {w : World} {a : Option Addr} {n cap : Nat} {L : List Jp2} (h : Rows2 w (.slice a n cap) (L.map jpL)) (i : Nat) (hi : i < L.length) :
    ∃ ad ad2 c2, a = some ad ∧ w.cell? (ad.add i) = some (.slice (some ad2) 2 c2) ∧ w.cell? ad2 = some (.int .i64 (atJ L i).1) ∧ w.cell? ⟨ad2.block, ad2.off + 1, none⟩ = some (.int .i64 (atJ L i).2) := by
  obtain ⟨a', cap', e, hl, hc⟩ := h
  simp only [Value.slice.injEq] at e
  obtain ⟨rfl, _, rfl⟩ := e
  obtain ⟨ad, u, rfl, hcell, hu⟩ := hc i (by simpa using hi)
  have e2 : (L.map jpL).getD i [] = [(atJ L i).1, (atJ L i).2] := by simp [atJ, jpL, hi]
  rw [e2] at hu
  obtain ⟨ad2, c2, rfl, h0, h1⟩ := hu.twoJ
  exact ⟨ad, ad2, c2, rfl, hcell, h0, h1⟩
/-- what a function that answers rows of pairs leaves, as the law reads it -/
theorem rows_of {w0 : World} {fn : FuncId} {args : Array Value} {o : Option (List (List Int))} {L : List Jp2} {t : Bool} (h : Calls Try.prog fn args w0 fun e w' => RowsAns w0 o e w') (hL : o.getD [] = L.map jpL) (ht : o.isSome = t) :
    Calls Try.prog fn args w0 fun e w' => ∃ a c, e = .returned (.tuple #[.slice a L.length c, .bool t]) ∧ Rows2 w' (.slice a L.length c) (L.map jpL) ∧ Later w0 w' :=
  h.mono fun e w' ⟨v, he, ho, hl⟩ => by
    rw [hL] at ho
    obtain ⟨a, c, rfl, _⟩ := ho.shape
    rw [List.length_map] at ho he
    exact ⟨a, c, by rw [he, ht], ho.rows, hl⟩
theorem squareQ_quiet (x y q : Int) (w : World) (h : quoJ x y = some q) : Calls Try.prog 6 #[.int .i64 x, .int .i64 y] w fun e w' => e = .returned (.tuple #[.int .i64 q, .bool true]) ∧ w' = w :=
  (implSquareQuotient_any x y w).mono fun _ _ hh => ⟨by rw [hh.1, h]; rfl, hh.2.symm⟩
theorem qp_facts (r c : Int) : ∃ U : List Jp2, (qpAns r c).getD [] = U.map jpL ∧ UpsJ (r * r) U ∧ (0 < U.length → 1 ≤ r ∧ r ≤ 100) := by
  unfold qpAns
  split
  · rename_i h
    exact ⟨upRun (r * r) c.toNat (r, 0), rfl, ups_facts h.1 h.2.1 c.toNat (by omega), fun _ => ⟨h.1, h.2.1⟩⟩
  · exact ⟨[], rfl, ⟨by simp, fun i hi => by simp at hi, fun i hi => by simp at hi⟩, fun h => by simp at h⟩
set_option maxRecDepth 100000 in
set_option maxHeartbeats 8000000 in
theorem lawQuotients_walk (u v : Value) (xs ys : List Int) (w : World) (hx : BytesR w u xs) (hy : BytesR w v ys) :
    Calls Try.prog 3 #[u, v] w fun e w' => e = .returned (.bool true) ∧ Later w w' := by
  have HX := hid hx
  have HY := hid hy
  clear hx hy
  go_enter Try.func3, Try.ntmps3
  go_wp2_with fail
  refine (big_any u v xs ys w HX.out HY.out).mono ?_
  rintro e w0 ⟨⟨b, rfl, _⟩, rfl⟩
  cases b
  · go_wp2_with fail
    refine (drawQuotientRun_any u xs w HX.out).mono ?_
    rintro e w1 ⟨a, b, rfl, hL1⟩
    have HL1 := hid hL1
    clear hL1
    have HQ := hid (fun w0 => implSquareQuotient_any a b w0)
    have HSQ := hid (fun w0 => specSquareQuotient_any a b w0)
    have HI := hid (fun w0 => implQuotientRun_any a b w0)
    have HS := hid (fun w0 => specQuotientRun_any a b w0)
    cases hq : quoJ a b with
    | none =>
      have hqa : qrAns a b = none := by unfold qrAns; rw [hq]
      rw [hq] at HQ HSQ
      rw [hqa] at HI HS
      have HI2 := hid (fun w0 => rows_of (L := []) (t := false) (HI.out w0) rfl rfl)
      have HS2 := hid (fun w0 => rows_of (L := []) (t := false) (HS.out w0) rfl rfl)
      clear hq hqa HI HS
      go_wp2_with (first | (go_at_call 6; refine (HQ.out _).mono ?_; rintro e w2 ⟨rfl, rfl⟩; simp only [Option.getD_none, Option.isSome_none]) | (go_at_call 7; refine (HSQ.out _).mono ?_; rintro e w2 ⟨rfl, hL2⟩; have HL2 := hid (HL1.out.trans hL2); clear hL2; simp only [Option.getD_none, Option.isSome_none]))
      refine (HI2.out _).mono ?_
      rintro e w3 ⟨a3, c3, rfl, hR3, hL3⟩
      have HR3 := hid hR3
      have HL3 := hid (HL2.out.trans hL3)
      clear hR3 hL3
      go_wp2_with fail
      refine (HS2.out _).mono ?_
      rintro e w4 ⟨a4, c4, rfl, hR4, hL4⟩
      have HVS := hid (vSameLists_same _ _ _ w4 (HR3.out.later hL4) hR4)
      have HL4 := hid (HL3.out.trans hL4)
      clear hR4 hL4
      go_wp2_with (go_at_call 10; refine HVS.out.mono ?_; rintro e w5 ⟨rfl, n5, rfl⟩)
      have HL5 := hid (HL4.out.trans (Later.drewN w4 n5))
      generalize w4.drewN n5 = w5 at HL5 ⊢
      go_wp2_with fail
      refine (drawQuotientPairs_any v ys _ (HY.out.later HL5.out)).mono ?_
      rintro e wa ⟨r, c, rfl, hLa⟩
      have HLa := hid (HL5.out.trans hLa)
      clear hLa
      obtain ⟨o, ho⟩ : ∃ o, qpAns r c = o := ⟨_, rfl⟩
      obtain ⟨U, hU, hUp, hUr⟩ := qp_facts r c
      rw [ho] at hU
      have HI := hid (fun w0 => implQuotientPairs_any r c w0)
      have HSP := hid (fun w0 => specQuotientPairs_any r c w0)
      rw [ho] at HI HSP
      clear ho
      obtain ⟨t, ht⟩ : ∃ t, o.isSome = t := ⟨_, rfl⟩
      have HI2 := hid (fun w0 => rows_of (HI.out w0) hU ht)
      have HS2 := hid (fun w0 => rows_of (HSP.out w0) hU ht)
      have htt : (t != t) = false := by simp
      have HUP := hid hUp
      have HUR := hid hUr
      clear hU ht hUp hUr HI HSP
      obtain ⟨n, hn⟩ : ∃ n, U.length = n := ⟨_, rfl⟩
      have HN := hid hn
      rw [hn] at HI2 HS2
      clear hn
      go_wp2_with fail
      refine (HI2.out _).mono ?_
      rintro e wb ⟨ab, cb, rfl, hRb, hLb⟩
      have HRb := hid hRb
      have HLb := hid (HLa.out.trans hLb)
      clear hRb hLb
      go_wp2_with fail
      refine (HS2.out _).mono ?_
      rintro e wc ⟨ac, cc, rfl, hRc, hLc⟩
      have HRc := hid hRc
      have HRb2 := hid (HRb.out.later hLc)
      have HLc := hid (HLb.out.trans hLc)
      clear hRc hLc
      have HVS := hid (vSameLists_same _ _ _ wc HRb2.out HRc.out)
      go_wp2_with (go_at_call 10; refine HVS.out.mono ?_; rintro e wd ⟨rfl, nd, rfl⟩)
      have HLd := hid (HLc.out.trans (Later.drewN wc nd))
      have HRd := hid (HRb2.out.drewN nd)
      generalize wc.drewN nd = wd at HLd HRd ⊢
      go_loopw [206] (fun i wr => ∃ k : Nat, k ≤ n ∧ i = .int .i64 k ∧ Later wd wr) (fun i _ => n - (intOf i).toNat)
      case atStart => exact ⟨0, Nat.zero_le _, rfl, Later.refl _⟩
      case round =>
        obtain ⟨k, hk, rfl, hLr⟩ := hrel
        have HLr := hid hLr
        by_cases hlt : k < n
        · have hltI : (k : Int) < (n : Int) := by omega
          have hr := HUR.out (by have := HN.out; omega)
          have hnb2 : n ≤ 20 := by rw [← HN.out]; exact HUP.out.short
          have hqj := HUP.out.each k (by rw [HN.out]; exact hlt)
          obtain ⟨ad, ad2, c2, rfl, hc, hc0, hc1⟩ := rowTwo (HRd.out.later hLr) k (by rw [HN.out]; exact hlt)
          obtain ⟨q1, q2⟩ := mulBd (x := r) (y := r) (a := 100) (b := 100) ⟨by omega, hr.2⟩ ⟨by omega, hr.2⟩ (by omega)
          rcases Nat.eq_zero_or_pos k with hkz | hkz
          · subst hkz
            obtain ⟨x, hx⟩ : ∃ x, (atJ U 0).1 = x := ⟨_, rfl⟩
            obtain ⟨y, hy⟩ : ∃ y, (atJ U 0).2 = y := ⟨_, rfl⟩
            have hquo := hqj.quo
            replace hc := (show _ = _ by simpa [Addr.add] using hc)
            rw [hx] at hc0 hquo
            rw [hy] at hc1 hquo
            have HQ := hid (fun w0 => squareQ_quiet x y (r * r) w0 hquo)
            obtain ⟨z, hz⟩ : ∃ z, r * r = z := ⟨_, rfl⟩
            rw [hz] at HQ q1 q2
            have hzz : (z != z) = false := by simp
            clear hx hy hquo hqj hLr
            go_wp2_with fail
            go_quiet ((go_at_call 6; exact Calls.quiet_of_same (HQ.out _)))
            go_wp2_with fail
            go_quiet (fail)
            go_wp2_with fail
            go_roundw
            case rel => exact ⟨1, hlt, by go_num, HLr.out.trans (Later.drewN _ _)⟩
            case measure => simp [intOf]; omega
          · obtain ⟨j, hj⟩ : ∃ j, k = j + 1 := ⟨k - 1, by omega⟩
            obtain ⟨ad', ad3, c3', e3, hd, hd0, hd1⟩ := rowTwo (HRd.out.later hLr) j (by rw [HN.out]; omega)
            injection e3 with e3
            subst e3
            obtain ⟨x, hx⟩ : ∃ x, (atJ U k).1 = x := ⟨_, rfl⟩
            obtain ⟨y, hy⟩ : ∃ y, (atJ U k).2 = y := ⟨_, rfl⟩
            have hnx := HUP.out.next j (by rw [HN.out]; omega)
            have hquo := hqj.quo
            have hxy : y ≤ x := by rw [← hx, ← hy]; exact hqj.1.2.1
            rw [← hj] at hnx
            rw [hx] at hc0 hquo
            rw [hy] at hc1 hquo hnx
            rw [← hnx] at hd0
            have HQ := hid (fun w0 => squareQ_quiet x y (r * r) w0 hquo)
            obtain ⟨z, hz⟩ : ∃ z, r * r = z := ⟨_, rfl⟩
            rw [hz] at HQ q1 q2
            have hzz : (z != z) = false := by simp
            have hyy : (y != y) = false := by simp
            have hzw : IntKind.i64.wrap z = z := wrapEq (by omega)
            have hjw : IntKind.i64.wrap (j : Int) = (j : Int) := wrapEq (by have := HUP.out.short; have := HN.out; omega)
            have hk1 : (k : Int) - 1 = (j : Int) := by omega
            have hk0 : (0 : Int) < (k : Int) := by omega
            have hkn : (j : Int) < (n : Int) := by omega
            clear hx hy hquo hqj hLr hnx hj
            go_wp2_with fail
            go_quiet ((go_at_call 6; exact Calls.quiet_of_same (HQ.out _)))
            go_wp2_with fail
            go_quiet (fail)
            go_wp2_with fail
            go_roundw
            case rel => exact ⟨k + 1, hlt, by go_num, by first | exact HLr.out.trans (Later.drewN _ _) | exact HLr.out.trans ((Later.drewN _ _).trans (Later.drewN _ _))⟩
            case measure => simp [intOf]; omega
        · obtain rfl : k = n := by omega
          go_wp2_with fail
          go_ret
          exact ⟨rfl, HLd.out.trans HLr.out⟩
    | some q =>
      have HF := hid (run_facts hq)
      have HEQ := hid (quoJ_some hq)
      have hqa : qrAns a b = some ((dnRun q (mxJ a b, mnJ a b)).map jpL) := by unfold qrAns; rw [hq]; exact qr_told hq
      have HQB := hid (quo_QP hq).2.2.2.2
      obtain ⟨L, hL⟩ : ∃ L, dnRun q (mxJ a b, mnJ a b) = L := ⟨_, rfl⟩
      rw [hL] at HF hqa
      rw [hq] at HQ HSQ
      rw [hqa] at HI HS
      have HI2 := hid (fun w0 => rows_of (L := L) (t := true) (HI.out w0) rfl rfl)
      have HS2 := hid (fun w0 => rows_of (L := L) (t := true) (HS.out w0) rfl rfl)
      have hqq : (q != q) = false := by simp
      obtain ⟨n, hn⟩ : ∃ n, L.length = n := ⟨_, rfl⟩
      have HN := hid hn
      rw [hn] at HI2 HS2
      clear hq hqa HI HS hL hn
      go_wp2_with (first | (go_at_call 6; refine (HQ.out _).mono ?_; rintro e w2 ⟨rfl, rfl⟩; simp only [Option.getD_some, Option.isSome_some]) | (go_at_call 7; refine (HSQ.out _).mono ?_; rintro e w2 ⟨rfl, hL2⟩; have HL2 := hid (HL1.out.trans hL2); clear hL2; simp only [Option.getD_some, Option.isSome_some]))
      refine (HI2.out _).mono ?_
      rintro e w3 ⟨a3, c3, rfl, hR3, hL3⟩
      have HR3 := hid hR3
      have HL3 := hid (HL2.out.trans hL3)
      clear hR3 hL3
      go_wp2_with fail
      refine (HS2.out _).mono ?_
      rintro e w4 ⟨a4, c4, rfl, hR4, hL4⟩
      have HVS := hid (vSameLists_same _ _ _ w4 (HR3.out.later hL4) hR4)
      have HL4 := hid (HL3.out.trans hL4)
      have HR4 := hid (HR3.out.later hL4)
      clear hR4 hL4
      go_upto_region 11 with (go_at_call 10; refine HVS.out.mono ?_; rintro e w5 ⟨rfl, n5, rfl⟩)
      have HL5 := hid (HL4.out.trans (Later.drewN w4 n5))
      have HR5 := hid (HR4.out.later (Later.drewN w4 n5))
      generalize w4.drewN n5 = w5 at HL5 HR5 ⊢
      have hnp : 0 < n := by rw [← HN.out]; exact HF.out.pos
      have hnb : n ≤ 21 := by rw [← HN.out]; exact HF.out.short
      obtain ⟨j, hj⟩ : ∃ j, n = j + 1 := ⟨n - 1, by omega⟩
      have hnj : (n : Int) - 1 = (j : Int) := by omega
      have hjn : (j : Int) < (n : Int) := by omega
      have hjw : IntKind.i64.wrap (j : Int) = (j : Int) := wrapEq (by omega)
      obtain ⟨a1, a2, b1, b2, _, heq⟩ := HEQ.out
      obtain ⟨hq0, hq1⟩ := HQB.out
      obtain ⟨rad, rad2, rc2, rfl, hc, hc0, hc1⟩ := rowTwo HR5.out j (by rw [HN.out]; omega)
      have hl0 := HF.out.last0
      have hl1 := HF.out.last1
      rw [HN.out, show n - 1 = j by omega] at hl0 hl1
      obtain ⟨x, hx⟩ : ∃ x, (atJ L j).1 = x := ⟨_, rfl⟩
      rw [hx] at hc0 hl1
      rw [hl0] at hc1
      obtain ⟨A, hA⟩ : ∃ A, a * a = A := ⟨_, rfl⟩
      obtain ⟨B, hB⟩ : ∃ B, b * b = B := ⟨_, rfl⟩
      obtain ⟨C, hC⟩ : ∃ C, a * b = C := ⟨_, rfl⟩
      obtain ⟨p1, p2⟩ := sqBd (x := a) ⟨a1, a2⟩
      obtain ⟨p3, p4⟩ := sqBd (x := b) ⟨b1, b2⟩
      obtain ⟨p5, p6⟩ := mulBd (x := a) (y := b) (a := 1000000) (b := 1000000) ⟨a1, a2⟩ ⟨b1, b2⟩ (by omega)
      rw [hA, hB, hC] at heq
      rw [hA] at p1 p2
      rw [hB] at p3 p4
      rw [hC] at p5 p6
      obtain ⟨S, hS⟩ : ∃ S, A + B = S := ⟨_, rfl⟩
      have hS2 : q * (C + 1) = S := by rw [← heq]; exact hS
      have hAw := wrapEq (q := A) (by omega)
      have hBw := wrapEq (q := B) (by omega)
      have hCw := wrapEq (q := C) (by omega)
      have hC1w := wrapEq (q := C + 1) (by omega)
      have hSw := wrapEq (q := S) (by omega)
      have hqw := wrapEq (q := q) (by omega)
      have hSS : (S != S) = false := by simp
      clear hx hl0 heq hj a1 a2 b1 b2
      go_upto_region 12 with fail
      go_quiet (fail)
      have HL6 := hid (HL5.out.trans (Later.drewN w5 nq))
      have HR6 := hid (HR5.out.later (Later.drewN w5 nq))
      generalize w5.drewN nq = w6 at HL6 HR6 ⊢
      clear hc hc0 hc1 hl1 hA hB hC p1 p2 p3 p4 p5 p6 hS hS2 hAw hBw hCw hC1w hSw hSS hnj hjn hjw hnp
      go_wp2_with fail
      go_loopw [126] (fun i wr => ∃ k : Nat, k ≤ n ∧ i = .int .i64 k ∧ Later w6 wr) (fun i _ => n - (intOf i).toNat)
      case atStart => exact ⟨0, Nat.zero_le _, rfl, Later.refl _⟩
      case round =>
        obtain ⟨k, hk, rfl, hLr⟩ := hrel
        have HLr := hid hLr
        by_cases hlt : k < n
        · have hltI : (k : Int) < (n : Int) := by omega
          have hqj := HF.out.each k (by rw [HN.out]; exact hlt)
          obtain ⟨ad, ad2, c2, e2, hc, hc0, hc1⟩ := rowTwo (HR6.out.later hLr) k (by rw [HN.out]; exact hlt)
          injection e2 with e2
          subst e2
          rcases Nat.eq_zero_or_pos k with hkz | hkz
          · subst hkz
            obtain ⟨x, hx⟩ : ∃ x, (atJ L 0).1 = x := ⟨_, rfl⟩
            obtain ⟨y, hy⟩ : ∃ y, (atJ L 0).2 = y := ⟨_, rfl⟩
            have hquo := hqj.quo
            replace hc := (show _ = _ by simpa [Addr.add] using hc)
            rw [hx] at hc0 hquo
            rw [hy] at hc1 hquo
            have HQ2 := hid (fun w0 => squareQ_quiet x y q w0 hquo)
            clear hx hy hquo hqj hLr
            go_wp2_with fail
            go_quiet ((go_at_call 6; exact Calls.quiet_of_same (HQ2.out _)))
            go_wp2_with fail
            go_quiet (fail)
            go_wp2_with fail
            go_roundw
            case rel => exact ⟨1, hlt, by go_num, HLr.out.trans (Later.drewN _ _)⟩
            case measure => simp [intOf]; omega
          · obtain ⟨j, hj⟩ : ∃ j, k = j + 1 := ⟨k - 1, by omega⟩
            obtain ⟨ad', ad3, c3', e3, hd, hd0, hd1⟩ := rowTwo (HR6.out.later hLr) j (by rw [HN.out]; omega)
            injection e3 with e3
            subst e3
            obtain ⟨x, hx⟩ : ∃ x, (atJ L k).1 = x := ⟨_, rfl⟩
            obtain ⟨y, hy⟩ : ∃ y, (atJ L k).2 = y := ⟨_, rfl⟩
            obtain ⟨x2, hx2⟩ : ∃ x, (atJ L j).1 = x := ⟨_, rfl⟩
            obtain ⟨y2, hy2⟩ : ∃ y, (atJ L j).2 = y := ⟨_, rfl⟩
            have hfl := HF.out.falls j (by rw [HN.out]; omega)
            have hqj2 := HF.out.each j (by rw [HN.out]; omega)
            have hquo := hqj.quo
            rw [← hj] at hfl
            rw [hx] at hc0 hquo hfl
            rw [hy] at hc1 hquo hfl
            rw [hx2] at hd0 hfl
            rw [hy2] at hd1 hfl
            have hb1 : 0 ≤ x + y ∧ x + y ≤ 2000000 := by rw [← hx, ← hy]; have h1 := hqj.1; have h2 := hqj.2; exact ⟨by have := h1.1; have := h1.2.1; omega, by have := h1.2.1; omega⟩
            have hb2 : 0 ≤ x2 + y2 ∧ x2 + y2 ≤ 2000000 := by rw [← hx2, ← hy2]; have h1 := hqj2.1; have h2 := hqj2.2; exact ⟨by have := h1.1; have := h1.2.1; omega, by have := h1.2.1; omega⟩
            obtain ⟨s1, hs1⟩ : ∃ s, x + y = s := ⟨_, rfl⟩
            obtain ⟨s2, hs2⟩ : ∃ s, x2 + y2 = s := ⟨_, rfl⟩
            rw [hs1] at hb1 hfl
            rw [hs2] at hb2 hfl
            have hs1w := wrapEq (q := s1) (by omega)
            have hs2w := wrapEq (q := s2) (by omega)
            have hge : ¬ s2 ≤ s1 := by omega
            have HQ2 := hid (fun w0 => squareQ_quiet x y q w0 hquo)
            have hk1 : (k : Int) - 1 = (j : Int) := by omega
            have hk0 : (0 : Int) < (k : Int) := by omega
            have hkn : (j : Int) < (n : Int) := by omega
            have hjw : IntKind.i64.wrap (j : Int) = (j : Int) := wrapEq (by omega)
            clear hx hy hx2 hy2 hquo hqj hqj2 hLr hj hb1 hb2
            go_wp2_with fail
            go_quiet ((go_at_call 6; exact Calls.quiet_of_same (HQ2.out _)))
            go_wp2_with fail
            go_quiet (fail)
            go_wp2_with fail
            go_roundw
            case rel => exact ⟨k + 1, hlt, by go_num, by first | exact HLr.out.trans (Later.drewN _ _) | exact HLr.out.trans ((Later.drewN _ _).trans (Later.drewN _ _))⟩
            case measure => simp [intOf]; omega
        · obtain rfl : k = n := by omega
          have HLx := hid (HL6.out.trans HLr.out)
          clear hqq hq0 hq1 hqw hnb HQ HSQ HI2 HS2 HVS
          go_wp2_with fail
          refine (drawQuotientPairs_any v ys _ (HY.out.later HLx.out)).mono ?_
          rintro e wa ⟨r, c, rfl, hLa⟩
          have HLa := hid (HLx.out.trans hLa)
          clear hLa
          obtain ⟨o, ho⟩ : ∃ o, qpAns r c = o := ⟨_, rfl⟩
          obtain ⟨U, hU, hUp, hUr⟩ := qp_facts r c
          rw [ho] at hU
          have HI := hid (fun w0 => implQuotientPairs_any r c w0)
          have HSP := hid (fun w0 => specQuotientPairs_any r c w0)
          rw [ho] at HI HSP
          clear ho
          obtain ⟨t, ht⟩ : ∃ t, o.isSome = t := ⟨_, rfl⟩
          have HI2 := hid (fun w0 => rows_of (HI.out w0) hU ht)
          have HS2 := hid (fun w0 => rows_of (HSP.out w0) hU ht)
          have htt : (t != t) = false := by simp
          have HUP := hid hUp
          have HUR := hid hUr
          clear hU ht hUp hUr HI HSP
          obtain ⟨n, hn⟩ : ∃ n, U.length = n := ⟨_, rfl⟩
          have HN := hid hn
          rw [hn] at HI2 HS2
          clear hn
          go_wp2_with fail
          refine (HI2.out _).mono ?_
          rintro e wb ⟨ab, cb, rfl, hRb, hLb⟩
          have HRb := hid hRb
          have HLb := hid (HLa.out.trans hLb)
          clear hRb hLb
          go_wp2_with fail
          refine (HS2.out _).mono ?_
          rintro e wc ⟨ac, cc, rfl, hRc, hLc⟩
          have HRc := hid hRc
          have HRb2 := hid (HRb.out.later hLc)
          have HLc := hid (HLb.out.trans hLc)
          clear hRc hLc
          have HVS := hid (vSameLists_same _ _ _ wc HRb2.out HRc.out)
          go_wp2_with (go_at_call 10; refine HVS.out.mono ?_; rintro e wd ⟨rfl, nd, rfl⟩)
          have HLd := hid (HLc.out.trans (Later.drewN wc nd))
          have HRd := hid (HRb2.out.drewN nd)
          generalize wc.drewN nd = wd at HLd HRd ⊢
          go_loopw [206] (fun i wr => ∃ k : Nat, k ≤ n ∧ i = .int .i64 k ∧ Later wd wr) (fun i _ => n - (intOf i).toNat)
          case atStart => exact ⟨0, Nat.zero_le _, rfl, Later.refl _⟩
          case round =>
            obtain ⟨k, hk, rfl, hLr⟩ := hrel
            have HLr := hid hLr
            by_cases hlt : k < n
            · have hltI : (k : Int) < (n : Int) := by omega
              have hr := HUR.out (by have := HN.out; omega)
              have hnb2 : n ≤ 20 := by rw [← HN.out]; exact HUP.out.short
              have hqj := HUP.out.each k (by rw [HN.out]; exact hlt)
              obtain ⟨ad, ad2, c2, rfl, hc, hc0, hc1⟩ := rowTwo (HRd.out.later hLr) k (by rw [HN.out]; exact hlt)
              obtain ⟨q1, q2⟩ := mulBd (x := r) (y := r) (a := 100) (b := 100) ⟨by omega, hr.2⟩ ⟨by omega, hr.2⟩ (by omega)
              rcases Nat.eq_zero_or_pos k with hkz | hkz
              · subst hkz
                obtain ⟨x, hx⟩ : ∃ x, (atJ U 0).1 = x := ⟨_, rfl⟩
                obtain ⟨y, hy⟩ : ∃ y, (atJ U 0).2 = y := ⟨_, rfl⟩
                have hquo := hqj.quo
                replace hc := (show _ = _ by simpa [Addr.add] using hc)
                rw [hx] at hc0 hquo
                rw [hy] at hc1 hquo
                have HQ := hid (fun w0 => squareQ_quiet x y (r * r) w0 hquo)
                obtain ⟨z, hz⟩ : ∃ z, r * r = z := ⟨_, rfl⟩
                rw [hz] at HQ q1 q2
                have hzz : (z != z) = false := by simp
                clear hx hy hquo hqj hLr
                go_wp2_with fail
                go_quiet ((go_at_call 6; exact Calls.quiet_of_same (HQ.out _)))
                go_wp2_with fail
                go_quiet (fail)
                go_wp2_with fail
                go_roundw
                case rel => exact ⟨1, hlt, by go_num, HLr.out.trans (Later.drewN _ _)⟩
                case measure => simp [intOf]; omega
              · obtain ⟨j, hj⟩ : ∃ j, k = j + 1 := ⟨k - 1, by omega⟩
                obtain ⟨ad', ad3, c3', e3, hd, hd0, hd1⟩ := rowTwo (HRd.out.later hLr) j (by rw [HN.out]; omega)
                injection e3 with e3
                subst e3
                obtain ⟨x, hx⟩ : ∃ x, (atJ U k).1 = x := ⟨_, rfl⟩
                obtain ⟨y, hy⟩ : ∃ y, (atJ U k).2 = y := ⟨_, rfl⟩
                have hnx := HUP.out.next j (by rw [HN.out]; omega)
                have hquo := hqj.quo
                have hxy : y ≤ x := by rw [← hx, ← hy]; exact hqj.1.2.1
                rw [← hj] at hnx
                rw [hx] at hc0 hquo
                rw [hy] at hc1 hquo hnx
                rw [← hnx] at hd0
                have HQ := hid (fun w0 => squareQ_quiet x y (r * r) w0 hquo)
                obtain ⟨z, hz⟩ : ∃ z, r * r = z := ⟨_, rfl⟩
                rw [hz] at HQ q1 q2
                have hzz : (z != z) = false := by simp
                have hyy : (y != y) = false := by simp
                have hzw : IntKind.i64.wrap z = z := wrapEq (by omega)
                have hjw : IntKind.i64.wrap (j : Int) = (j : Int) := wrapEq (by have := HUP.out.short; have := HN.out; omega)
                have hk1 : (k : Int) - 1 = (j : Int) := by omega
                have hk0 : (0 : Int) < (k : Int) := by omega
                have hkn : (j : Int) < (n : Int) := by omega
                clear hx hy hquo hqj hLr hnx hj
                go_wp2_with fail
                go_quiet ((go_at_call 6; exact Calls.quiet_of_same (HQ.out _)))
                go_wp2_with fail
                go_quiet (fail)
                go_wp2_with fail
                go_roundw
                case rel => exact ⟨k + 1, hlt, by go_num, by first | exact HLr.out.trans (Later.drewN _ _) | exact HLr.out.trans ((Later.drewN _ _).trans (Later.drewN _ _))⟩
                case measure => simp [intOf]; omega
            · obtain rfl : k = n := by omega
              go_wp2_with fail
              go_ret
              exact ⟨rfl, HLd.out.trans HLr.out⟩
  · go_wp2_with fail
    go_ret
    exact ⟨rfl, Later.refl _⟩
end Go.Proofs.Ytdngocjhblpkkac
