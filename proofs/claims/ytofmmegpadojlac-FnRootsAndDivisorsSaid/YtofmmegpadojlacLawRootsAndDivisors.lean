/- The walk of the law FnRootsAndDivisors. -/
import Derived.Test.YtofmmegpadojlacNuA
import Derived.Test.YtofmmegpadojlacRdA
import Derived.Test.YtofmmegpadojlacRdB
namespace Go.Proofs.Ytofmmegpadojlac
open Go.RowKit

theorem pair_litG (w : World) (x y : Int) : Ints (w.alloc (.cells #[.int .i64 x, .int .i64 y] 3)) (.slice (some ⟨w.heap.size, 0, none⟩) 2 2) [x, y] := by
  refine ⟨some ⟨w.heap.size, 0, none⟩, 2, rfl, by simp, fun i hi => ⟨⟨w.heap.size, 0, none⟩, rfl, ?_⟩⟩
  have := lit_cellsG w [x, y] i hi
  rw [addr_add0]
  exact this
theorem addr_add_addG (a : Addr) (i j : Nat) (hi : 0 < i) : (⟨a.block, a.off + i, none⟩ : Addr).add j = a.add (i + j) := addr_add_addH a i j hi
set_option maxRecDepth 100000 in
set_option maxHeartbeats 8000000 in
theorem lawRootsAndDivisors_walk (u v : Value) (xs ys : List Int) (w : World) (hx : BytesR w u xs) (hy : BytesR w v ys) :
    Calls Try.prog 3 #[u, v] w fun e w' => e = .returned (.bool true) ∧ Later w w' := by
  have HX := hid hx
  have HY := hid hy
  clear hx hy
  go_enter Try.func3, Try.ntmps3
  go_wp2_with fail
  refine (big_any u v xs ys w HX.out HY.out).mono ?_
  rintro e w0 ⟨⟨b, rfl, _⟩, rfl⟩
  cases b
  · go_wp2_with fail
    refine (drawRootOf_any u xs w HX.out).mono ?_
    rintro e w1 ⟨n, rfl, hL1⟩
    have HL1 := hid hL1
    clear hL1
    obtain ⟨o, ho⟩ : ∃ o, rootAns n = o := ⟨_, rfl⟩
    have HO := hid ho
    obtain ⟨r, hr⟩ : ∃ r, o.getD 0 = r := ⟨_, rfl⟩
    obtain ⟨t, ht⟩ : ∃ t, o.isSome = t := ⟨_, rfl⟩
    have HI := hid (fun w0 => num_as9 (by have h := implRootOf_any n w0; rw [ho] at h; exact h) hr ht)
    have HS := hid (fun w0 => num_as9 (by have h := specRootOf_any n w0; rw [ho] at h; exact h) hr ht)
    have HR := hid hr
    have HT := hid ht
    have htt : (t != t) = false := by simp
    have hrr : (r != r) = false := by simp
    clear ho hr ht
    go_wp2_with fail
    refine (HI.out _).mono ?_
    rintro e w2 ⟨rfl, hL2⟩
    have HL2 := hid (HL1.out.trans hL2)
    clear hL2
    go_wp2_with fail
    refine (HS.out _).mono ?_
    rintro e w3 ⟨rfl, hL3⟩
    have HL3 := hid (HL2.out.trans hL3)
    clear hL3
    go_upto_region 8 with fail
    clear HI HS HL1 HL2 htt hrr
    go_cut [64] (fun s wx => s = .bool false ∧ wx = w3)
    case first =>
      cases t
      · go_wp2_with fail
        go_meet
        case rel => exact ⟨rfl, rfl⟩
      · obtain ⟨q, hq⟩ : ∃ q, o = some q := Option.isSome_iff_exists.1 HT.out
        subst hq
        have hr := HR.out
        simp only [Option.getD_some] at hr
        subst hr
        obtain ⟨r0, r1, s1, s2, hn⟩ := root_law HO.out
        obtain ⟨S, hS⟩ : ∃ S, q * q = S := ⟨_, rfl⟩
        obtain ⟨T, hT⟩ : ∃ S, (q + 1) * (q + 1) = S := ⟨_, rfl⟩
        have e : T = S + 2 * q + 1 := by rw [← hS, ← hT]; grind
        rw [hS] at s1
        rw [hT] at s2
        have hS0 : 0 ≤ S := by rw [← hS]; exact Int.mul_nonneg r0 r0
        have h1 : ¬ q < 0 := by omega
        have h2 : ¬ n < S := by omega
        have h3 : ¬ T ≤ n := by omega
        have hq1 := wrapQ (q := q + 1) (by omega)
        have hSw := wrapQ (q := S) (by omega)
        have hTw := wrapQ (q := T) (by omega)
        clear e s1 s2
        go_wp2_with fail
        go_meet
        case rel => exact ⟨rfl, rfl⟩
    case rest =>
    obtain ⟨rfl, rfl⟩ := hcut
    clear HO HR HT
    go_wp2_with fail
    refine (drawDivisorOf_any v ys _ (HY.out.later HL3.out)).mono ?_
    rintro e w4 ⟨z, zs, rfl, hO, hlen, hL4⟩
    obtain ⟨p1, c1, rfl, hcap⟩ := hO.shape
    have HO := hid hO
    have HL4 := hid (HL3.out.trans hL4)
    clear hO hL4
    obtain ⟨o2, ho2⟩ : ∃ o, divAns zs = o := ⟨_, rfl⟩
    have HO2 := hid ho2
    obtain ⟨d, hd⟩ : ∃ r, o2.getD 0 = r := ⟨_, rfl⟩
    obtain ⟨t2, ht2⟩ : ∃ t, o2.isSome = t := ⟨_, rfl⟩
    obtain ⟨m, hm⟩ : ∃ m, zs.length = m := ⟨_, rfl⟩
    have HZ := hid (show ∀ w0, Later w4 w0 → Ints w0 (.slice p1 m c1) zs by rw [← hm]; exact fun w0 h => HO.out.ints.later h)
    have HI := hid (fun w0 (h : Later w4 w0) => num_as9 (by have h := implDivisorOf_any _ zs w0 (HZ.out w0 h); rw [ho2] at h; exact h) hd ht2)
    have HS := hid (fun w0 (h : Later w4 w0) => num_as9 (by have h := specDivisorOf_any _ zs w0 (HZ.out w0 h); rw [ho2] at h; exact h) hd ht2)
    have HM := hid hm
    have HD := hid hd
    have HT := hid ht2
    have htt : (t2 != t2) = false := by simp
    have hdd : (d != d) = false := by simp
    rw [hm] at hlen hcap ⊢
    clear hm ho2 hd ht2 HL3
    go_wp2_with fail
    refine (HI.out _ (Later.refl _)).mono ?_
    rintro e w5 ⟨rfl, hL5⟩
    have HL45 := hid hL5
    clear hL5
    go_wp2_with fail
    refine (HS.out _ HL45.out).mono ?_
    rintro e w6 ⟨rfl, hL6⟩
    have HL46 := hid (HL45.out.trans hL6)
    have HL6 := hid (HL4.out.trans HL46.out)
    clear hL6 HI HS HL45
    go_upto_if 86 with fail
    cases t2
    · go_wp2_with fail
      go_ret
      exact ⟨rfl, HL6.out⟩
    · obtain ⟨q, hq⟩ : ∃ q, o2 = some q := Option.isSome_iff_exists.1 HT.out
      subst hq
      have hr := HD.out
      simp only [Option.getD_some] at hr
      subst hr
      obtain ⟨hqe, h40⟩ := div_some HO2.out
      have HQE := hid hqe
      rw [HM.out] at h40
      have hd0 : 0 ≤ q := by rw [hqe]; exact gcdL_nonneg zs
      clear hqe htt hdd
      go_wp2_with fail
      go_loopw [89] (fun i wr => ∃ k : Nat, k ≤ m ∧ i = .int .i64 k ∧ wr = w6) (fun i _ => m - (intOf i).toNat)
      case atStart => exact ⟨0, Nat.zero_le _, rfl, rfl⟩
      case round =>
        obtain ⟨k, hk, rfl, rfl⟩ := hrel
        by_cases hlt : k < m
        · have hltI : (k : Int) < (m : Int) := by omega
          obtain ⟨_, _, e7, _, hc⟩ := HZ.out _ HL46.out
          simp only [Value.slice.injEq] at e7
          obtain ⟨rfl, _, rfl⟩ := e7
          obtain ⟨ad, rfl, hcell⟩ := hc k (by rw [HM.out]; exact hlt)
          have hmem : zs.getD k 0 ∈ zs := by rw [getD_at zs k (by rw [HM.out]; exact hlt)]; exact List.getElem_mem _
          obtain ⟨x, hx⟩ : ∃ x, zs.getD k 0 = x := ⟨_, rfl⟩
          rw [hx] at hcell hmem
          clear hc hx
          rcases Int.lt_or_le 0 q with hq0 | hq0
          · have hqn : ¬ q = 0 := by omega
            have hmod : x.tmod q = 0 := by have h := gcdL_tmod hmem (by rw [← HQE.out]; exact hq0); rw [← HQE.out] at h; exact h
            have hqb : (q == 0) = false := by simp [hqn]
            clear hmem
            go_wp2_with fail
            go_roundw
            case rel => exact ⟨k + 1, hlt, by go_num, trivial⟩
            case measure => simp [intOf]; omega
          · have hqz : q = 0 := by omega
            have hxz : x = 0 := gcdL_zero hmem (by rw [← HQE.out]; exact hqz)
            clear hmem
            subst hqz
            subst hxz
            go_wp2_with fail
            go_roundw
            case rel => exact ⟨k + 1, hlt, by go_num, trivial⟩
            case measure => simp [intOf]; omega
        · obtain rfl : k = m := by omega
          rcases Nat.eq_zero_or_pos k with hk0 | hk0
          · subst hk0
            have hz : zs = [] := List.length_eq_zero_iff.1 HM.out
            have hq0 : q = 0 := by rw [HQE.out, hz]; rfl
            subst hq0
            go_wp2_with fail
            go_ret
            exact ⟨rfl, HL6.out⟩
          · obtain ⟨x, l, hz⟩ : ∃ x l, zs = x :: l := by
              cases hz : zs with
              | nil => have := HM.out; rw [hz] at this; simp at this; omega
              | cons x l => exact ⟨x, l, rfl⟩
            have ho := HO2.out
            rw [hz] at ho
            obtain ⟨_, ho1, ho3⟩ := div_parts ho
            have hzr := HZ.out _ HL46.out
            have hlen2 := HM.out
            rw [hz] at hzr hlen2
            obtain ⟨N, hN⟩ : ∃ N, l.length = N := ⟨_, rfl⟩
            rw [List.length_cons, hN] at hlen2
            obtain ⟨_, _, e7, _, hc⟩ := hzr
            simp only [Value.slice.injEq] at e7
            obtain ⟨rfl, _, rfl⟩ := e7
            obtain ⟨ad, rfl, hcell⟩ := hc 0 (by simp)
            have hcell0 : wr.cell? ad = some (.int .i64 x) := by simpa [Addr.add] using hcell
            obtain ⟨rest, hrest⟩ : ∃ r, gcdL l = r := ⟨_, rfl⟩
            rw [hrest] at ho1 ho3
            have hmI : (k : Int) = (N : Int) + 1 := by omega
            have hk1 : (0 : Int) < (k : Int) := by omega
            have h1k : (1 : Int) ≤ (k : Int) := by omega
            have hkc : (k : Int) ≤ (c1 : Int) := by omega
            have HMI := hid hmI
            have HLE := hid hlen2
            have HC := hid hc
            clear hmI hc hcell
            by_cases hc1 : c1 = 1
            · subst hc1
              have hN0 : N = 0 := by omega
              have HN0 := hid hN0
              have hk2 : k = 1 := by omega
              have hkI : (k : Int) = 1 := by omega
              clear hlen2 hN0 hk2 hk1 h1k hkc hcap hlt hk hk0 hlen
              have hrI : Ints wr (.slice (some ad) N 0) l := by
                refine ⟨some ad, 0, by rw [hN], by rw [hN, HN0.out]; omega, fun i hi => ?_⟩
                rw [hN, HN0.out] at hi
                omega
              have HR := hid (num_as9 (o := some rest) (z := rest) (t := true) (by have h := implDivisorOf_any _ l wr hrI; rw [ho1] at h; exact h) rfl rfl)
              clear hrI
              go_wp2_with fail
              refine HR.out.mono ?_
              rintro e wa ⟨rfl, hLa⟩
              have HB := hid (num_as9 (o := some q) (z := q) (t := true) (by have h := implDivisorOf_any _ [x, rest] (wa.alloc (.cells #[.int .i64 x, .int .i64 rest] 3)) (pair_litG wa x rest); rw [ho3] at h; exact h) rfl rfl)
              replace hcell0 := hLa.cell hcell0
              have HLa := hid (HL6.out.trans hLa)
              clear hLa
              go_wp2_with fail
              refine HB.out.mono ?_
              rintro e wb ⟨rfl, hLb⟩
              have HLb := hid (HLa.out.trans ((Later.alloc wa _).trans hLb))
              clear hLb
              go_wp2_with fail
              go_ret
              exact ⟨rfl, HLb.out⟩
            · clear hlen2
              have hrI : Ints wr (.slice (some ⟨ad.block, ad.off + 1, none⟩) N (c1 - 1)) l := by
                refine ⟨some ⟨ad.block, ad.off + 1, none⟩, c1 - 1, by rw [hN], by have := HLE.out; rw [hN]; omega, fun i hi => ⟨_, rfl, ?_⟩⟩
                obtain ⟨ad2, e2, h2⟩ := HC.out (i + 1) (by simpa using hi)
                simp only [Option.some.injEq] at e2
                subst e2
                rw [addr_add_addG _ _ _ (Nat.succ_pos 0), Nat.add_comm]
                rw [h2]; rfl
              have HR := hid (num_as9 (o := some rest) (z := rest) (t := true) (by have h := implDivisorOf_any _ l wr hrI; rw [ho1] at h; exact h) rfl rfl)
              clear hrI
              go_wp2_with fail
              refine HR.out.mono ?_
              rintro e wa ⟨rfl, hLa⟩
              have HB := hid (num_as9 (o := some q) (z := q) (t := true) (by have h := implDivisorOf_any _ [x, rest] (wa.alloc (.cells #[.int .i64 x, .int .i64 rest] 3)) (pair_litG wa x rest); rw [ho3] at h; exact h) rfl rfl)
              replace hcell0 := hLa.cell hcell0
              have HLa := hid (HL6.out.trans hLa)
              clear hLa
              go_wp2_with fail
              refine HB.out.mono ?_
              rintro e wb ⟨rfl, hLb⟩
              have HLb := hid (HLa.out.trans ((Later.alloc wa _).trans hLb))
              clear hLb
              go_wp2_with fail
              go_ret
              exact ⟨rfl, HLb.out⟩
  · go_wp2_with fail
    go_ret
    exact ⟨rfl, Later.refl _⟩
end Go.Proofs.Ytofmmegpadojlac
