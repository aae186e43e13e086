/- The walk of the law FnRunsOfPairs. -/
import Derived.Test.YthejafejmbpepaaRnB
import Derived.Test.YthejafejmbpepaaRnA
import Derived.Test.YthejafejmbpepaaJpQ
import Derived.Test.YthejafejmbpepaaJpO
namespace Go.Proofs.Ythejafejmbpepaa
open Go.RowKit

set_option maxRecDepth 100000 in
set_option maxHeartbeats 8000000 in
theorem lawRuns_walk (u v : Value) (xs ys : List Int) (w : World) (hx : BytesR w u xs) (hy : BytesR w v ys) :
    Calls Try.prog 4 #[u, v] w fun e w' => e = .returned (.bool true) ∧ Later w w' := by
  have HX := hid hx
  have HY := hid hy
  clear hx hy
  go_enter Try.func4, Try.ntmps4
  go_wp2_with fail
  refine (big_any u v xs ys w HX.out HY.out).mono ?_
  rintro e w0 ⟨⟨b, rfl, _⟩, rfl⟩
  cases b
  · go_wp2_with fail
    refine (drawDescend_any u xs w HX.out).mono ?_
    rintro e w1 ⟨x, y, k, c, rfl, hL1⟩
    have HL1 := hid hL1
    clear hL1
    obtain ⟨o, ho⟩ : ∃ o, descAns x y k c = o := ⟨_, rfl⟩
    obtain ⟨L, hL, HD⟩ : ∃ L : List Jp2, o.getD [] = L.map jpL ∧ Hid (o.isSome = true → RunLaw x y k c (leastOf k (x, y)) L) := by
      cases o with
      | none => exact ⟨[], rfl, hid (fun h => by cases h)⟩
      | some M => obtain ⟨L, e, hR, _⟩ := desc_law ho; exact ⟨L, e, hid (fun _ => hR)⟩
    obtain ⟨t, ht⟩ : ∃ t, o.isSome = t := ⟨_, rfl⟩
    obtain ⟨t2, ht2⟩ : ∃ t, juB x y k c = t := ⟨_, rfl⟩
    obtain ⟨a, ha⟩ : ∃ a, ((leastAns x y k c).getD (0, 0)).1 = a := ⟨_, rfl⟩
    obtain ⟨b, hb⟩ : ∃ b, ((leastAns x y k c).getD (0, 0)).2 = b := ⟨_, rfl⟩
    have ht3 : (leastAns x y k c).isSome = t2 := by rw [← ht2]; unfold leastAns; cases juB x y k c <;> simp
    have HTT := hid (show t = true → t2 = true by
      intro h
      rw [h] at ht
      obtain ⟨M, hM⟩ := Option.isSome_iff_exists.1 ht
      obtain ⟨_, _, _, hB⟩ := desc_law (ho.trans hM)
      rw [← ht2]; exact hB)
    have HAB := hid (show t2 = true → leastOf k (x, y) = (a, b) by
      intro h
      rw [h] at ht2
      unfold leastAns at ha hb
      rw [if_pos ht2] at ha hb
      simp only [Option.getD_some] at ha hb
      rw [← ha, ← hb])
    have HEND := hid (show t2 = true → dnAns a b k c = none by
      intro h
      have h1 := HAB.out h
      rw [h] at ht2
      have h2 := least_law ht2
      rw [h1] at h2
      exact h2)
    rw [ht] at HD
    have HI := hid (fun w0 => rows_of (by have h := implDescendPair_any x y k c w0; rw [ho] at h; exact h) hL ht)
    have HS := hid (fun w0 => rows_of (by have h := specDescendPair_any x y k c w0; rw [ho] at h; exact h) hL ht)
    have HLI := hid (fun w0 => pair_as (implLeastPair_any x y k c w0) ha hb ht3)
    have HLS := hid (fun w0 => pair_as (specLeastPair_any x y k c w0) ha hb ht3)
    have HVP := hid (fun w0 => vPair_any x y k c t2 w0 ht2)
    have haa : (a != a) = false := by simp
    have hbb : (b != b) = false := by simp
    have htt : (t != t) = false := by simp
    have htt2 : (t2 != t2) = false := by simp
    clear ho hL ht ht2 ht3 ha hb
    obtain ⟨n, hn⟩ : ∃ n, L.length = n := ⟨_, rfl⟩
    have HN := hid hn
    rw [hn] at HI HS
    clear hn
    go_wp2_with fail
    refine (HI.out _).mono ?_
    rintro e w2 ⟨a2, c2, rfl, hR2, hL2⟩
    have HR2 := hid hR2
    have HL2 := hid (HL1.out.trans hL2)
    clear hR2 hL2
    go_wp2_with fail
    refine (HS.out _).mono ?_
    rintro e w3 ⟨a3, c3, rfl, hR3, hL3⟩
    have HR3 := hid hR3
    have HR23 := hid (HR2.out.later hL3)
    have HL3 := hid (HL2.out.trans hL3)
    clear hR3 hL3
    go_upto_region 8 with (first
      | (go_at_call 24; refine (HLI.out _).mono ?_; rintro e w4 ⟨rfl, hL4⟩; have HL34 := hid hL4; clear hL4)
      | (go_at_call 25; refine (HLS.out _).mono ?_; rintro e w5 ⟨rfl, hL5⟩; have HL35 := hid (HL34.out.trans hL5); clear hL5))
    have HL5 := hid (HL3.out.trans HL35.out)
    have HR5 := hid (HR23.out.later HL35.out)
    have HVS := hid (vSameLists_same _ _ _ w5 HR5.out (HR3.out.later HL35.out))
    clear HI HS HLI HLS HL1 HL2 HR2 HR3 HR23 HL3 HL34 HL35
    go_upto_if 117 with (first
      | (go_at_call 19; refine HVS.out.mono ?_; rintro e w6 ⟨rfl, n6, rfl⟩)
      | (go_at_call 10; refine (HVP.out _).mono ?_; rintro e w7 ⟨rfl, hL7⟩; have HL67 := hid ((Later.drewN w5 n6).trans hL7); clear hL7))
    have HL7 := hid (HL5.out.trans HL67.out)
    have HR7 := hid (HR5.out.later HL67.out)
    clear haa hbb htt htt2 HVS HVP HL5 HR5 HL67
    go_cut [] (fun wx => Later w wx)
    case first =>
      cases t
      · go_wp2_with fail
        go_meet
        case rel => exact HL7.out
      · as_aux_lemma =>
          obtain ⟨hpos, hshort, hfirst, hlast, hnext⟩ := HD.out rfl
          rw [HAB.out (HTT.out rfl)] at hlast
          rw [HN.out] at hpos hshort hlast
          obtain ⟨j, hj⟩ : ∃ j, n - 1 = j := ⟨_, rfl⟩
          have hjn : j < n := by omega
          have hjI : (n : Int) - 1 = (j : Int) := by omega
          have hjnI : (j : Int) < (n : Int) := by omega
          have hjw := wrapEq (q := (j : Int)) (by omega)
          have hn0 : (0 : Int) < (n : Int) := by omega
          rw [hj] at hlast
          obtain ⟨ad, adl, cl, rfl, hcl, hl0, hl1, hlI⟩ := rowTwo HR7.out j (by rw [HN.out]; exact hjn)
          obtain ⟨ad', adf, cf, e3, hcf, hf0, hf1, hfI⟩ := rowTwo HR7.out 0 (by rw [HN.out]; exact hpos)
          injection e3 with e3
          subst e3
          rw [hlast] at hlI
          rw [hfirst] at hfI
          replace hcf := (show _ = _ by simpa [Addr.add] using hcf)
          have HFI : Hid (Ints w7 (.slice (some adf) 2 cf) [x, y]) := hid hfI
          have HLI : Hid (Ints w7 (.slice (some adl) 2 cl) [a, b]) := hid hlI
          have HNX := hid hnext
          clear hl0 hl1 hf0 hf1 hlI hfI hfirst hlast hnext hj HD HTT HAB HEND
          go_wp2_with fail
          refine (vSame_same _ _ [x, y] _ (HFI.out.later (Later.alloc w7 _)) (pair_lit w7 x y)).mono ?_
          rintro e w8 ⟨rfl, n8, rfl⟩
          have HL8 := hid ((Later.alloc w7 (.cells #[.int .i64 x, .int .i64 y] 3)).trans (Later.drewN _ n8))
          have HLI8 := hid (HLI.out.later HL8.out)
          generalize (w7.alloc (.cells #[.int .i64 x, .int .i64 y] 3)).drewN n8 = w8 at HL8 HLI8 ⊢
          clear hcf hcl
          go_wp2_with fail
          refine (vSame_same _ _ [a, b] _ (HLI8.out.later (Later.alloc w8 _)) (pair_lit w8 a b)).mono ?_
          rintro e w9 ⟨rfl, n9, rfl⟩
          have HL9 := hid (HL8.out.trans ((Later.alloc w8 (.cells #[.int .i64 a, .int .i64 b] 3)).trans (Later.drewN _ n9)))
          have HR9 := hid (HR7.out.later HL9.out)
          generalize (w8.alloc (.cells #[.int .i64 a, .int .i64 b] 3)).drewN n9 = w9 at HL9 HR9 ⊢
          have HLw9 := hid (HL7.out.trans HL9.out)
          clear HL8 HLI8 HLI HFI HL9 hjI hjnI hjw hn0 hjn
          go_wp2_with fail
          go_loopw [20] (fun i wr => ∃ k : Nat, 1 ≤ k ∧ k ≤ n ∧ i = .int .i64 k ∧ Later w9 wr) (fun i _ => n - (intOf i).toNat)
          case atStart => exact ⟨1, Nat.le_refl _, hpos, rfl, Later.refl _⟩
          case round =>
            obtain ⟨i, hi1, hin, rfl, hLr⟩ := hrel
            have HLr := hid hLr
            by_cases hlt : i < n
            · have hltI : (i : Int) < (n : Int) := by omega
              obtain ⟨j, hj⟩ : ∃ j, i = j + 1 := ⟨i - 1, by omega⟩
              have hnx := HNX.out j (by rw [HN.out]; omega)
              rw [← hj] at hnx
              obtain ⟨ad', adi, ci, e2, hci, hci0, hci1, hciI⟩ := rowTwo (HR9.out.later hLr) i (by rw [HN.out]; exact hlt)
              injection e2 with e2
              subst e2
              obtain ⟨ad', adj, cj, e3, hcj, hcj0, hcj1, _⟩ := rowTwo (HR9.out.later hLr) j (by rw [HN.out]; omega)
              injection e3 with e3
              subst e3
              obtain ⟨p, hp⟩ : ∃ z, (atJ L j).1 = z := ⟨_, rfl⟩
              obtain ⟨q, hq⟩ : ∃ z, (atJ L j).2 = z := ⟨_, rfl⟩
              obtain ⟨r, hr⟩ : ∃ z, (atJ L i).1 = z := ⟨_, rfl⟩
              obtain ⟨s, hs⟩ : ∃ z, (atJ L i).2 = z := ⟨_, rfl⟩
              have hrs : atJ L i = (r, s) := by rw [← hr, ← hs]
              rw [hrs, hp, hq] at hnx
              rw [hp] at hcj0
              rw [hq] at hcj1
              rw [hr, hs] at hciI
              have hdl := dn_law hnx
              have hfall := hdl.falls
              have hN1 := hdl.n
              have hN2 := hdl.m
              obtain ⟨n1, n2, n3⟩ := hN1
              obtain ⟨m1, m2, m3⟩ := hN2
              simp only at n1 n2 n3 m1 m2 m3 hfall
              have HJD := hid (fun w0 => pair_as (o := some (r, s)) (by have h := implJumpDown_any p q k c w0; rw [hnx] at h; exact h) rfl rfl rfl)
              obtain ⟨s1, hs1⟩ : ∃ z, r + s = z := ⟨_, rfl⟩
              obtain ⟨s2, hs2⟩ : ∃ z, p + q = z := ⟨_, rfl⟩
              rw [hs1, hs2] at hfall
              have hs1w := wrapEq (q := s1) (by omega)
              have hs2w := wrapEq (q := s2) (by omega)
              have hge : ¬ s2 ≤ s1 := by omega
              have hk1 : (i : Int) - 1 = (j : Int) := by omega
              have hk0 : (0 : Int) < (i : Int) := by omega
              have hkn : (j : Int) < (n : Int) := by omega
              have hjw : IntKind.i64.wrap (j : Int) = (j : Int) := wrapEq (by omega)
              have HCI := hid hci
              have HCII := hid hciI
              have HS1 := hid hs1
              have HS2 := hid hs2
              clear hp hq hr hs hrs hnx hdl hfall n1 n2 n3 m1 m2 m3 hci hci0 hci1 hciI hj hLr hs1 hs2
              go_wp2_with fail
              have kj : ∀ u : LaterH wr, u.now.cell? (ad.add j) = some (.slice (some adj) 2 cj) := fun u => u.later.cell hcj
              have kj0 : ∀ u : LaterH wr, u.now.cell? adj = some (.int .i64 p) := fun u => u.later.cell hcj0
              have kj1 : ∀ u : LaterH wr, u.now.cell? ⟨adj.block, adj.off + 1, none⟩ = some (.int .i64 q) := fun u => u.later.cell hcj1
              have HCJ := hid hcj
              have HCJ0 := hid hcj0
              have HCJ1 := hid hcj1
              clear hcj hcj0 hcj1
              refine wp_region_laterJ (by kernel_rfl) (by kernel_rfl) ?_
              repeat
                with_reducible refine wpQuiet_step (fun K hK => ?_)
                go_simp
                first
                  | (with_reducible refine hK _ ?_; clear hK K)
                  | (apply Exists.intro
                     refine ⟨fun _ => ?_, hK _ ?_⟩
                     (go_at_call 8; with_reducible exact Calls.laterH _ (HJD.out _))
                     clear hK K)
              with_reducible refine wpQuiet_nil ?_
              intro w2 hw'
              obtain ⟨⟨wq, hLq⟩, hw''⟩ := hw'
              subst hw''
              have HLq := hid (HLr.out.trans hLq)
              have ci' := (Later.drew w2).cell (hLq.cell HCI.out)
              have cj' := (Later.drew w2).cell (hLq.cell HCJ.out)
              have d0 := (Later.drew w2).cell (hLq.cell HCJ0.out)
              have d1 := (Later.drew w2).cell (hLq.cell HCJ1.out)
              have HCQ := hid (HCII.out.later hLq)
              have s1' := HS1.out
              have s2' := HS2.out
              clear hLq kj kj0 kj1 HCI HCJ HCJ0 HCJ1 HCII
              go_wp2_with fail
              have HV := hid (vSame_same _ _ [r, s] _ ((HCQ.out.later (Later.drew w2)).later (Later.alloc w2.drew (.cells #[.int .i64 r, .int .i64 s] 3))) (pair_lit w2.drew r s))
              go_region_held3 (fun w' => w'.cell? (ad.add i) = some (.slice (some adi) 2 ci) ∧ w'.cell? (ad.add j) = some (.slice (some adj) 2 cj) ∧ w'.cell? adj = some (.int .i64 p) ∧ w'.cell? ⟨adj.block, adj.off + 1, none⟩ = some (.int .i64 q)) (first | exact ⟨ci', cj', d0, d1⟩ | exact ⟨(Later.alloc _ _).cell ci', (Later.alloc _ _).cell cj', (Later.alloc _ _).cell d0, (Later.alloc _ _).cell d1⟩ | exact ⟨mi, mj, m0, m1⟩) (first | (go_at_call 16; refine HV.out.mono ?_; rintro e w8 ⟨rfl, n8, rfl⟩; have hL8 := (Later.alloc w2.drew (.cells #[.int .i64 r, .int .i64 s] 3)).trans (Later.drewN _ n8); have mi := hL8.cell ci'; have mj := hL8.cell cj'; have m0 := hL8.cell d0; have m1 := hL8.cell d1; have HL8 := hid (HLq.out.trans ((Later.drew w2).trans hL8)); clear hL8))
              go_wp2_with fail
              go_roundw
              case rel => exact ⟨i + 1, by omega, hlt, by go_num, HLq.out.trans ((Later.alloc w2 _).trans (Later.drewN _ _))⟩
              case measure => simp [intOf]; omega
            · obtain rfl : i = n := by omega
              go_wp2_with fail
              go_meet
              case rel => exact HLw9.out.trans HLr.out
    case rest =>
      have HLc := hid hcut
      clear hcut
      go_upto_if 201 with fail
      go_cut [] (fun wx => Later w wx)
      case first =>
        cases t2
        · go_wp2_with fail
          go_meet
          case rel => exact HLc.out
        · have hE := HEND.out rfl
          have HJ0 := hid (fun w0 => pair_as (o := none) (by have h := implJumpDown_any a b k c w0; rw [hE] at h; exact h) rfl rfl rfl)
          clear hE
          go_wp2_with (go_at_call 8; refine (HJ0.out _).mono ?_; rintro e wz ⟨rfl, hLz⟩; have HLz := hid (HLc.out.trans hLz); clear hLz)
          go_meet
          case rel => exact HLz.out
      case rest =>
        have HLd := hid hcut
        clear hcut HLc HD HTT HAB HEND HN HL7 HR7
        go_wp2_with fail
        refine (drawAscend_any v ys wc (HY.out.later HLd.out)).mono ?_
        rintro e wd ⟨p, q, m, d, s, rfl, hL⟩
        have HLe := hid (HLd.out.trans hL)
        clear hL HLd
        obtain ⟨o2, ho2⟩ : ∃ o, ascAns p q m d s = o := ⟨_, rfl⟩
        cases o2 with
        | none =>
          as_aux_lemma =>
            have HI2 := hid (fun w0 => rows_of (L := []) (t := false) (by have h := implAscendPair_any p q m d s w0; rw [ho2] at h; exact h) rfl rfl)
            have HS2 := hid (fun w0 => rows_of (L := []) (t := false) (by have h := specAscendPair_any p q m d s w0; rw [ho2] at h; exact h) rfl rfl)
            clear ho2
            go_wp2_with fail
            refine (HI2.out _).mono ?_
            rintro e wf ⟨af, cf, rfl, hRf, hLf⟩
            have HRf := hid hRf
            have HLf := hid (HLe.out.trans hLf)
            clear hRf hLf
            go_wp2_with fail
            refine (HS2.out _).mono ?_
            rintro e wg ⟨ag, cg, rfl, hRg, hLg⟩
            have HVS := hid (vSameLists_same _ _ _ wg (HRf.out.later hLg) hRg)
            have HLg := hid (HLf.out.trans hLg)
            clear hRg hLg
            go_wp2_with (go_at_call 19; refine HVS.out.mono ?_; rintro e wh ⟨rfl, nh, rfl⟩)
            go_ret
            exact ⟨rfl, HLg.out.trans (Later.drewN wg nh)⟩
        | some M =>
          as_aux_lemma =>
            obtain ⟨U, rfl, hlen, ⟨s1, s2⟩, hnext⟩ := asc_law ho2
            have HI2 := hid (fun w0 => rows_of (L := U) (t := true) (by have h := implAscendPair_any p q m d s w0; rw [ho2] at h; exact h) rfl rfl)
            have HS2 := hid (fun w0 => rows_of (L := U) (t := true) (by have h := specAscendPair_any p q m d s w0; rw [ho2] at h; exact h) rfl rfl)
            obtain ⟨g, hg⟩ : ∃ g, U.length = g := ⟨_, rfl⟩
            have HN := hid hg
            have HNX := hid hnext
            rw [hg] at HI2 HS2 hlen
            obtain ⟨S1, hS1⟩ : ∃ z, s + 1 = z := ⟨_, rfl⟩
            have hS1w := wrapEq (q := S1) (by omega)
            have hfin : ((g : Int) == S1) = true := by rw [← hS1, hlen]; simp
            have hgb : g ≤ 41 := by omega
            have hg1 : 1 ≤ g := by omega
            have HSS := hid hS1
            clear ho2 hg hnext hlen s1 s2 hS1
            go_wp2_with fail
            refine (HI2.out _).mono ?_
            rintro e wf ⟨af, cf, rfl, hRf, hLf⟩
            have HRf := hid hRf
            have HLf := hid (HLe.out.trans hLf)
            clear hRf hLf
            go_wp2_with fail
            refine (HS2.out _).mono ?_
            rintro e wg ⟨ag, cg, rfl, hRg, hLg⟩
            have HVS := hid (vSameLists_same _ _ _ wg (HRf.out.later hLg) hRg)
            have HRg := hid (HRf.out.later hLg)
            have HLg := hid (HLf.out.trans hLg)
            clear hRg hLg HI2 HS2
            go_upto_region 32 with (go_at_call 19; refine HVS.out.mono ?_; rintro e wh ⟨rfl, nh, rfl⟩)
            have HLh := hid (HLg.out.trans (Later.drewN wg nh))
            have HRh := hid (HRg.out.drewN nh)
            generalize wg.drewN nh = wh at HLh HRh ⊢
            clear HVS HRf HRg HLf HLg HLe
            go_loopw [36] (fun i wr => ∃ k : Nat, 1 ≤ k ∧ k ≤ g ∧ i = .int .i64 k ∧ Later wh wr) (fun i _ => g - (intOf i).toNat)
            case atStart => exact ⟨1, Nat.le_refl _, hg1, rfl, Later.refl _⟩
            case round =>
              obtain ⟨i, hi1, hin, rfl, hLr⟩ := hrel
              have HLr := hid hLr
              by_cases hlt : i < g
              · have hltI : (i : Int) < (g : Int) := by omega
                obtain ⟨j, hj⟩ : ∃ j, i = j + 1 := ⟨i - 1, by omega⟩
                have hnx := HNX.out j (by rw [HN.out]; omega)
                rw [← hj] at hnx
                obtain ⟨ad, adi, ci, rfl, hci, _, _, hciI⟩ := rowTwo (HRh.out.later hLr) i (by rw [HN.out]; exact hlt)
                obtain ⟨ad', adj, cj, e3, hcj, hcj0, hcj1, _⟩ := rowTwo (HRh.out.later hLr) j (by rw [HN.out]; omega)
                injection e3 with e3
                subst e3
                obtain ⟨x1, hx1⟩ : ∃ z, (atJ U j).1 = z := ⟨_, rfl⟩
                obtain ⟨y1, hy1⟩ : ∃ z, (atJ U j).2 = z := ⟨_, rfl⟩
                obtain ⟨x2, hx2⟩ : ∃ z, (atJ U i).1 = z := ⟨_, rfl⟩
                obtain ⟨y2, hy2⟩ : ∃ z, (atJ U i).2 = z := ⟨_, rfl⟩
                have hrs : atJ U i = (x2, y2) := by rw [← hx2, ← hy2]
                rw [hrs, hx1, hy1] at hnx
                rw [hx1] at hcj0
                rw [hy1] at hcj1
                rw [hx2, hy2] at hciI
                have HJU := hid (fun w0 => pair_as (o := some (x2, y2)) (by have h := implJumpUp_any x1 y1 m d w0; rw [hnx] at h; exact h) rfl rfl rfl)
                have hk1 : (i : Int) - 1 = (j : Int) := by omega
                have hk0 : (0 : Int) < (i : Int) := by omega
                have hkn : (j : Int) < (g : Int) := by omega
                have hjw : IntKind.i64.wrap (j : Int) = (j : Int) := wrapEq (by omega)
                have HCI := hid hci
                have HCII := hid hciI
                clear hx1 hy1 hx2 hy2 hrs hnx hci hciI hj hLr
                go_wp2_with fail
                have kj : ∀ u : LaterH wr, u.now.cell? (ad.add j) = some (.slice (some adj) 2 cj) := fun u => u.later.cell hcj
                have kj0 : ∀ u : LaterH wr, u.now.cell? adj = some (.int .i64 x1) := fun u => u.later.cell hcj0
                have kj1 : ∀ u : LaterH wr, u.now.cell? ⟨adj.block, adj.off + 1, none⟩ = some (.int .i64 y1) := fun u => u.later.cell hcj1
                clear hcj hcj0 hcj1
                refine wp_region_laterJ (by kernel_rfl) (by kernel_rfl) ?_
                repeat
                  with_reducible refine wpQuiet_step (fun K hK => ?_)
                  go_simp
                  first
                    | (with_reducible refine hK _ ?_; clear hK K)
                    | (apply Exists.intro
                       refine ⟨fun _ => ?_, hK _ ?_⟩
                       (go_at_call 11; with_reducible exact Calls.laterH _ (HJU.out _))
                       clear hK K)
                with_reducible refine wpQuiet_nil ?_
                intro w2 hw'
                obtain ⟨⟨wq, hLq⟩, hw''⟩ := hw'
                subst hw''
                have HLq := hid (HLr.out.trans hLq)
                have ci' := hLq.cell HCI.out
                have HCQ := hid (HCII.out.later hLq)
                clear hLq kj kj0 kj1 HCI HCII
                go_wp2_with fail
                refine (vSame_same _ _ [x2, y2] _ (HCQ.out.later (Later.alloc w2 _)) (pair_lit w2 x2 y2)).mono ?_
                rintro e w8 ⟨rfl, n8, rfl⟩
                go_wp2_with fail
                go_roundw
                case rel => exact ⟨i + 1, by omega, hlt, by go_num, HLq.out.trans ((Later.alloc w2 _).trans (Later.drewN _ _))⟩
                case measure => simp [intOf]; omega
              · obtain rfl : i = g := by omega
                have hSS := HSS.out
                go_wp2_with fail
                go_ret
                exact ⟨rfl, HLh.out.trans HLr.out⟩
  · go_wp2_with fail
    go_ret
    exact ⟨rfl, Later.refl _⟩
end Go.Proofs.Ythejafejmbpepaa
