/- The walk of the law FnClassesOfPairs. -/
import Derived.Test.YtdahhcigphhfdaaCuH
import Derived.Test.YtdahhcigphhfdaaCuW
import Derived.Test.YtdahhcigphhfdaaJpU
import Derived.Test.YtdahhcigphhfdaaJuU
import Derived.Test.YtdahhcigphhfdaaJkAC
import Derived.Test.YtdahhcigphhfdaaJpM
import Derived.Test.YtdahhcigphhfdaaJpO
namespace Go.Proofs.Ytdahhcigphhfdaa
open Go.RowKit

/-- what a function that answers numbers leaves, as the law reads it -/
theorem ints_of {w0 : World} {fn : FuncId} {args : Array Value} {o : Option (List Int)} {M : List Int} {t : Bool} (h : Calls Try.prog fn args w0 fun e w' => IntsAns w0 o e w') (hM : o.getD [] = M) (ht : o.isSome = t) :
    Calls Try.prog fn args w0 fun e w' => ∃ a c, e = .returned (.tuple #[.slice a M.length c, .bool t]) ∧ Ints w' (.slice a M.length c) M ∧ Later w0 w' :=
  h.mono fun e w' ⟨v, he, ho, hl⟩ => by
    rw [hM] at ho
    obtain ⟨a, c, rfl, _⟩ := id ho.ints
    exact ⟨a, c, by rw [he, ht], ho.ints, hl⟩
set_option maxRecDepth 100000 in
set_option maxHeartbeats 8000000 in
theorem lawClassesOfPairs_walk (u v : Value) (xs ys : List Int) (w : World) (hx : BytesR w u xs) (hy : BytesR w v ys) :
    Calls Try.prog 3 #[u, v] w fun e w' => e = .returned (.bool true) ∧ Later w w' := by
  have HX := hid hx
  have HY := hid hy
  clear hx hy
  go_enter Try.func3, Try.ntmps3
  go_wp2_with fail
  refine (big_any u v xs ys w HX.out HY.out).mono ?_
  rintro e w0 ⟨⟨b, rfl, _⟩, rfl⟩
  cases b
  · go_wp2_with fail
    refine (drawPairsUpTo_any u xs w HX.out).mono ?_
    rintro e w1 ⟨k, c, m, rfl, hL1⟩
    have HL1 := hid hL1
    clear hL1
    obtain ⟨o, ho⟩ : ∃ o, puAns k c m = o := ⟨_, rfl⟩
    obtain ⟨oc, hoc⟩ : ∃ o, clAns k c m = o := ⟨_, rfl⟩
    obtain ⟨L, C, hL, hC, HD⟩ : ∃ L C : List Jp2, o.getD [] = L.map jpL ∧ oc.getD [] = C.map jpL ∧ Hid (o.isSome = true → oc.isSome = true ∧ ClsLaw k c m L C) := by
      cases o with
      | none =>
        cases oc with
        | none => exact ⟨[], [], rfl, rfl, hid (fun h => by cases h)⟩
        | some M =>
          have h1 : ∃ C : List Jp2, M = C.map jpL := by
            unfold clAns toldJ at hoc
            split at hoc
            · split at hoc
              · injection hoc with hoc; exact ⟨_, hoc.symm⟩
              · cases hoc
            · cases hoc
          obtain ⟨C, rfl⟩ := h1
          exact ⟨[], C, rfl, rfl, hid (fun h => by cases h)⟩
      | some M =>
        obtain ⟨L, C, e1, e2, hR⟩ := cls_law ho
        rw [hoc] at e2
        subst e1 e2
        exact ⟨L, C, rfl, rfl, hid (fun _ => ⟨rfl, hR⟩)⟩
    obtain ⟨t, ht⟩ : ∃ t, o.isSome = t := ⟨_, rfl⟩
    obtain ⟨t1, ht1⟩ : ∃ t, oc.isSome = t := ⟨_, rfl⟩
    rw [ht, ht1] at HD
    have HI := hid (fun w0 => rows_of (by have h := implPairsUpTo_any k c m w0; rw [ho] at h; exact h) hL ht)
    have HS := hid (fun w0 => rows_of (by have h := specPairsUpTo_any k c m w0; rw [ho] at h; exact h) hL ht)
    have HCI := hid (fun w0 => rows_of (by have h := implClassesUpTo_any k c m w0; rw [hoc] at h; exact h) hC ht1)
    have HCS := hid (fun w0 => rows_of (by have h := specClassesUpTo_any k c m w0; rw [hoc] at h; exact h) hC ht1)
    have htt : (t != t) = false := by simp
    have htt1 : (t1 != t1) = false := by simp
    clear ho hoc hL hC ht ht1
    obtain ⟨n, hn⟩ : ∃ n, L.length = n := ⟨_, rfl⟩
    have HN := hid hn
    obtain ⟨nc, hnc⟩ : ∃ n, C.length = n := ⟨_, rfl⟩
    have HNC := hid hnc
    rw [hn] at HI HS
    rw [hnc] at HCI HCS
    clear hn hnc
    go_wp2_with fail
    refine (HI.out _).mono ?_
    rintro e w2 ⟨a2, c2, rfl, hR2, hL2⟩
    have HR2 := hid hR2
    have HL2 := hid (HL1.out.trans hL2)
    clear hR2 hL2
    go_wp2_with fail
    refine (HS.out _).mono ?_
    rintro e w3 ⟨a3, c3, rfl, hR3, hL3⟩
    have HR3 := hid hR3
    have HR23 := hid (HR2.out.later hL3)
    have HL3 := hid (HL2.out.trans hL3)
    clear hR3 hL3
    go_wp2_with fail
    refine (HCI.out _).mono ?_
    rintro e w4 ⟨a4, c4, rfl, hR4, hL4⟩
    have HR4 := hid hR4
    have HR24 := hid (HR23.out.later hL4)
    have HR34 := hid (HR3.out.later hL4)
    have HL4 := hid (HL3.out.trans hL4)
    clear hR4 hL4
    go_wp2_with fail
    refine (HCS.out _).mono ?_
    rintro e w5 ⟨a5, c5, rfl, hR5, hL5⟩
    have HR5 := hid hR5
    have HA := hid (HR24.out.later hL5)
    have HB := hid (HR34.out.later hL5)
    have HC := hid (HR4.out.later hL5)
    have HL5 := hid (HL4.out.trans hL5)
    clear hR5 hL5 HI HS HCI HCS HL1 HL2 HR2 HR3 HR23 HL3 HR4 HR24 HR34 HL4
    go_upto_region 8 with fail
    go_cut [99] (fun s99 wx => s99 = .bool false ∧ Later w5 wx)
    case first =>
      as_aux_lemma =>
      have HV1 := hid (vSameLists_same _ _ _ w5 HA.out HB.out)
      have HV2 := hid (fun n => vSameLists_same _ _ _ (w5.drewN n) (HC.out.drewN n) (HR5.out.drewN n))
      cases t
      · go_wp2_with (go_at_call 13; first | (refine HV1.out.mono ?_; rintro e w6 ⟨rfl, n6, rfl⟩; clear HV1) | (refine (HV2.out _).mono ?_; rintro e w7 ⟨rfl, n7, rfl⟩))
        go_meet
        case rel => exact ⟨rfl, by first | exact (Later.drewN _ _) | exact ((Later.drewN _ _).trans (Later.drewN _ _))⟩
      · obtain rfl := (HD.out rfl).1
        go_wp2_with (go_at_call 13; first | (refine HV1.out.mono ?_; rintro e w6 ⟨rfl, n6, rfl⟩; clear HV1) | (refine (HV2.out _).mono ?_; rintro e w7 ⟨rfl, n7, rfl⟩))
        go_meet
        case rel => exact ⟨rfl, by first | exact (Later.drewN _ _) | exact ((Later.drewN _ _).trans (Later.drewN _ _))⟩
    case rest =>
      as_aux_lemma =>
      obtain ⟨rfl, hcut⟩ := hcut
      have HLc := hid (HL5.out.trans hcut)
      have HAc := hid (HA.out.later hcut)
      have HCc := hid (HC.out.later hcut)
      clear hcut HA HB HC HR5 HL5 htt htt1
      go_wp2_with fail
      refine (drawKsUpTo_any v ys _ (HY.out.later HLc.out)).mono ?_
      rintro e w6 ⟨d, bound, rfl, hL6⟩
      have HL6 := hid (HLc.out.trans hL6)
      have HA6 := hid (HAc.out.later hL6)
      have HC6 := hid (HCc.out.later hL6)
      clear hL6 HLc HAc HCc
      obtain ⟨ok, hok⟩ : ∃ o, ksAns d bound = o := ⟨_, rfl⟩
      obtain ⟨M, hM⟩ : ∃ M, ok.getD [] = M := ⟨_, rfl⟩
      obtain ⟨t3, ht3⟩ : ∃ t, ok.isSome = t := ⟨_, rfl⟩
      have HKS := hid (show t3 = true → d = 1 → ∀ z ∈ M, z = 3 by
        intro h1 h2
        subst h2
        rw [h1] at ht3
        obtain ⟨M', hM'⟩ := Option.isSome_iff_exists.1 ht3
        rw [← hM, hM']; exact ks_three (hok.trans hM'))
      have hMB : M.length ≤ 100000 := by
        rw [← hM, ← hok]
        unfold ksAns
        split
        · rename_i hh; exact ksSet_len d (by omega)
        · simp
      have HI := hid (fun w0 => ints_of (by have h := implKsUpTo_any d bound w0; rw [hok] at h; exact h) hM ht3)
      have HS := hid (fun w0 => ints_of (by have h := specKsUpTo_any d bound w0; rw [hok] at h; exact h) hM ht3)
      have htt : (t3 != t3) = false := by simp
      clear hok hM ht3
      go_wp2_with fail
      refine (HI.out _).mono ?_
      rintro e w7 ⟨a7, c7, rfl, hR7, hL7⟩
      have HR7 := hid hR7
      have HL7 := hid hL7
      clear hR7 hL7
      go_wp2_with fail
      refine (HS.out _).mono ?_
      rintro e w8 ⟨a8, c8, rfl, hR8, hL8⟩
      have HL8 := hid (HL7.out.trans hL8)
      have HR78 := hid (HR7.out.later hL8)
      have HV := hid (vSame_same _ _ M w8 HR78.out hR8)
      clear hR8 hL8 HR7 HL7
      go_upto_region 15 with (go_at_call 17; refine HV.out.mono ?_; rintro e w9 ⟨rfl, n9, rfl⟩)
      have HL9 := hid (HL6.out.trans (HL8.out.trans (Later.drewN w8 n9)))
      have HA9 := hid (HA6.out.later (HL8.out.trans (Later.drewN w8 n9)))
      have HC9 := hid (HC6.out.later (HL8.out.trans (Later.drewN w8 n9)))
      have HR9 := hid (HR78.out.drewN n9)
      generalize w8.drewN n9 = w9 at HL9 HA9 HC9 HR9 ⊢
      clear HV HL8 HR78 HL6 HA6 HC6 HI HS htt
      obtain ⟨bb, hbb⟩ : ∃ bb, (t3 && decide (d = 1)) = bb := ⟨_, rfl⟩
      have HBB := hid hbb
      clear hbb
      go_cut [130] (fun s wx => s = .bool bb ∧ Later w9 wx)
      case first =>
        as_aux_lemma =>
        cases t3
        · go_wp2_with fail
          go_meet
          case rel => exact ⟨by rw [← HBB.out]; rfl, Later.refl _⟩
        · by_cases hd : d = 1
          · subst hd
            go_wp2_with fail
            go_meet
            case rel => exact ⟨by rw [← HBB.out]; rfl, Later.refl _⟩
          · have hd1 : (d == 1) = false := by simp [hd]
            have HDD := hid hd
            clear hd
            go_wp2_with fail
            go_meet
            case rel => exact ⟨by rw [← HBB.out]; simp [HDD.out], Later.refl _⟩
      case rest =>
        as_aux_lemma =>
        obtain ⟨rfl, hcut⟩ := hcut
        have HLd := hid (HL9.out.trans hcut)
        have HAd := hid (HA9.out.later hcut)
        have HCd := hid (HC9.out.later hcut)
        have HRd := hid (HR9.out.later hcut)
        clear hcut HL9 HA9 HC9 HR9
        obtain ⟨g, hg⟩ : ∃ g, M.length = g := ⟨_, rfl⟩
        have HG := hid hg
        rw [hg] at hMB HRd ⊢
        clear hg
        go_upto_if 130 with fail
        go_cut [] (fun wx => Later wc wx)
        case first =>
          as_aux_lemma =>
          cases bb
          · go_wp2_with fail
            go_meet
            case rel => exact Later.refl _
          · as_aux_lemma =>
            have h1 : t3 = true ∧ d = 1 := by
              have h := HBB.out
              simp at h
              exact h
            have HALL := hid (HKS.out h1.1 h1.2)
            clear h1
            obtain ⟨a', cap', e3, hl3, hc3⟩ := HRd.out
            simp only [Value.slice.injEq] at e3
            obtain ⟨rfl, _, rfl⟩ := e3
            have HC3 := hid hc3
            clear hc3 hl3
            go_wp2_with fail
            go_loopw [133] (fun i wr => ∃ k : Nat, k ≤ g ∧ i = .int .i64 k ∧ wr = wc) (fun i _ => g - (intOf i).toNat)
            case atStart => exact ⟨0, Nat.zero_le _, rfl, rfl⟩
            case round =>
              as_aux_lemma =>
              obtain ⟨k1, hk, rfl, rfl⟩ := hrel
              by_cases hlt : k1 < g
              · have hltI : (k1 : Int) < (g : Int) := by omega
                obtain ⟨ad, rfl, hcell⟩ := HC3.out k1 (by rw [HG.out]; exact hlt)
                rw [HALL.out (M.getD k1 0) (by rw [List.getD_eq_getElem?_getD, List.getElem?_eq_getElem (by rw [HG.out]; exact hlt)]; exact List.getElem_mem _)] at hcell
                go_wp2_with fail
                go_roundw
                case rel => exact ⟨k1 + 1, hlt, by go_num, trivial⟩
                case measure => simp [intOf]; omega
              · obtain rfl : k1 = g := by omega
                go_wp2_with fail
                go_meet
                case rel => exact Later.refl _
        case rest =>
          as_aux_lemma =>
          have HLe := hid (HLd.out.trans hcut)
          have HAe := hid (HAd.out.later hcut)
          have HCe := hid (HCd.out.later hcut)
          clear hcut HLd HAd HCd HRd HKS HBB HG hMB
          go_wp2_with fail
          refine (drawKOfPair_any v ys _ (HY.out.later HLe.out)).mono ?_
          rintro e wf ⟨x, y, f, rfl, hLf⟩
          have HLf := hid (HLe.out.trans hLf)
          have HAf := hid (HAe.out.later hLf)
          have HCf := hid (HCe.out.later hLf)
          clear hLf HLe HAe HCe
          obtain ⟨o4, ho4⟩ : ∃ o, kOf x y f = o := ⟨_, rfl⟩
          obtain ⟨nn, hnn⟩ : ∃ z, o4.getD 0 = z := ⟨_, rfl⟩
          obtain ⟨t4, ht4⟩ : ∃ z, o4.isSome = z := ⟨_, rfl⟩
          have HK4 := hid (show t4 = true → juB x y nn f = true by
            intro h
            rw [h] at ht4
            obtain ⟨z, hz⟩ := Option.isSome_iff_exists.1 ht4
            rw [hz] at hnn
            simp only [Option.getD_some] at hnn
            subst hnn
            exact kOf_B (ho4.trans hz))
          have HKI : Hid (∀ w0, Calls Try.prog 19 #[.int .i64 x, .int .i64 y, .int .i64 f] w0 fun e w' => e = .returned (.tuple #[.int .i64 nn, .bool t4]) ∧ w0 = w') := hid (fun w0 => by have h := implKOfPair_any x y f w0; rw [ho4, hnn, ht4] at h; exact h)
          have HKJ : Hid (∀ w0, Calls Try.prog 20 #[.int .i64 x, .int .i64 y, .int .i64 f] w0 fun e w' => e = .returned (.tuple #[.int .i64 nn, .bool t4]) ∧ w0 = w') := hid (fun w0 => by have h := specKOfPair_any x y f w0; rw [ho4, hnn, ht4] at h; exact h)
          have h44 : (t4 != t4) = false := by simp
          have hnnn : (nn != nn) = false := by simp
          clear ho4 hnn ht4
          go_upto_region 25 with (first
            | (go_at_call 19; refine (HKI.out _).mono ?_; rintro e wg ⟨rfl, rfl⟩)
            | (go_at_call 20; refine (HKJ.out _).mono ?_; rintro e wh ⟨rfl, rfl⟩))
          go_cut [178] (fun s wx => s = .bool false ∧ Later wf wx)
          case first =>
            as_aux_lemma =>
            cases t4
            · go_wp2_with fail
              go_meet
              case rel => exact ⟨rfl, Later.refl _⟩
            · have HV := hid (fun w0 => vPair_any x y nn f true w0 (HK4.out rfl))
              go_wp2_with (go_at_call 21; refine (HV.out _).mono ?_; rintro e wi ⟨rfl, hLi⟩)
              go_meet
              case rel => exact ⟨rfl, hLi⟩
          case rest =>
            as_aux_lemma =>
            obtain ⟨rfl, hcut⟩ := hcut
            have HLg := hid (HLf.out.trans hcut)
            have HAg := hid (HAf.out.later hcut)
            have HCg := hid (HCf.out.later hcut)
            clear hcut HLf HAf HCf HK4 HKI HKJ h44 hnnn
            cases t
            · go_wp2_with fail
              go_ret
              exact ⟨rfl, HLg.out⟩
            · as_aux_lemma =>
                obtain ⟨ht1e, heach, hdown, hbef, hs1, hs2⟩ := HD.out rfl
                subst ht1e
                rw [HN.out] at hs1
                rw [HNC.out] at hs2
                have HE := hid heach
                have HDN := hid hdown
                have HBF := hid hbef
                clear heach hdown hbef HD
                go_wp2_with fail
                go_loopw [183] (fun i wr => ∃ k1 : Nat, k1 ≤ n ∧ i = .int .i64 k1 ∧ Later wc wr) (fun i _ => n - (intOf i).toNat)
                case atStart => exact ⟨0, Nat.zero_le _, rfl, Later.refl _⟩
                case round =>
                  as_aux_lemma =>
                  obtain ⟨i, hin, rfl, hLr⟩ := hrel
                  have HLr := hid hLr
                  by_cases hlt : i < n
                  · have hltI : (i : Int) < (n : Int) := by omega
                    have hj0 : ∃ j, j < n ∧ (0 < i → i = j + 1) := ⟨i - 1, by omega, fun _ => by omega⟩
                    obtain ⟨j, hjn, hji⟩ := hj0
                    obtain ⟨ad, adi, ci, rfl, hci, hci0, hci1, hciI⟩ := rowTwo (HAg.out.later hLr) i (by rw [HN.out]; exact hlt)
                    obtain ⟨ad', adj, cj, e3, hcj, _, _, hcjI⟩ := rowTwo (HAg.out.later hLr) j (by rw [HN.out]; exact hjn)
                    injection e3 with e3
                    subst e3
                    obtain ⟨hB, hle⟩ := HE.out i (by rw [HN.out]; exact hlt)
                    have hmem := HDN.out i (by rw [HN.out]; exact hlt)
                    have hb : 0 < i → LtJ (atJ L j) (atJ L i) := fun h => by
                      have h1 := hji h
                      have h2 := HBF.out j (by rw [HN.out]; omega)
                      rw [← h1] at h2; exact h2
                    obtain ⟨p, hp⟩ : ∃ z, (atJ L i).1 = z := ⟨_, rfl⟩
                    obtain ⟨q, hq⟩ : ∃ z, (atJ L i).2 = z := ⟨_, rfl⟩
                    have hpq : atJ L i = (p, q) := by rw [← hp, ← hq]
                    obtain ⟨r, hr⟩ : ∃ z, (atJ L j).1 = z := ⟨_, rfl⟩
                    obtain ⟨s, hs⟩ : ∃ z, (atJ L j).2 = z := ⟨_, rfl⟩
                    have hrs : atJ L j = (r, s) := by rw [← hr, ← hs]
                    rw [hp, hq] at hB hciI
                    rw [hp] at hle hci0
                    rw [hq] at hci1
                    rw [hr, hs] at hcjI
                    rw [hpq] at hmem hb
                    rw [hrs] at hb
                    obtain ⟨a, ha⟩ : ∃ z, (leastOf k (p, q)).1 = z := ⟨_, rfl⟩
                    obtain ⟨b, hb2⟩ : ∃ z, (leastOf k (p, q)).2 = z := ⟨_, rfl⟩
                    have hab : leastOf k (p, q) = (a, b) := by rw [← ha, ← hb2]
                    rw [hab] at hmem
                    have HLP := hid (fun w0 => pair_as (o := some (a, b)) (by have h := implLeastPair_any p q k c w0; rw [show leastAns p q k c = some (a, b) by unfold leastAns; rw [if_pos hB, hab]] at h; exact h) rfl rfl rfl)
                    have HVP := hid (fun w0 => vPair_any p q k c true w0 hB)
                    have hngt : ¬ m < p := by omega
                    have HMEM := hid hmem
                    have HBB2 := hid hb
                    have HCI := hid hci
                    have HCJ := hid hcj
                    have HII := hid hciI
                    have HJJ := hid hcjI
                    have HJI := hid hji
                    clear hp hq hpq hr hs hrs ha hb2 hab hB hle hmem hb hcj hciI hcjI hji hLr
                    go_wp2_with fail
                    have ki0 : ∀ u : LaterH wr, u.now.cell? adi = some (.int .i64 p) := fun u => u.later.cell hci0
                    have ki1 : ∀ u : LaterH wr, u.now.cell? ⟨adi.block, adi.off + 1, none⟩ = some (.int .i64 q) := fun u => u.later.cell hci1
                    have HC0 := hid hci0
                    have HC1 := hid hci1
                    clear hci0 hci1 hci
                    refine wp_region_laterJ (by kernel_rfl) (by kernel_rfl) ?_
                    repeat
                      with_reducible refine wpQuiet_step (fun K hK => ?_)
                      go_simp
                      first
                        | (with_reducible refine hK _ ?_; clear hK K)
                        | (apply Exists.intro
                           refine ⟨fun _ => ?_, hK _ ?_⟩
                           (go_at_call 22; with_reducible exact Calls.laterH _ (HLP.out _))
                           clear hK K)
                    with_reducible refine wpQuiet_nil ?_
                    intro w2 hw'
                    obtain ⟨⟨wq, hLq⟩, hw''⟩ := hw'
                    subst hw''
                    have HLq := hid (HLr.out.trans hLq)
                    have d0 := (Later.drew w2).cell (hLq.cell HC0.out)
                    have d1 := (Later.drew w2).cell (hLq.cell HC1.out)
                    have dj := (Later.drew w2).cell (hLq.cell HCJ.out)
                    have HIQ := hid (HII.out.later hLq)
                    have HJQ := hid (HJJ.out.later hLq)
                    have HCQ := hid ((HCg.out.later HLq.out).later (Later.drew w2))
                    clear hLq ki0 ki1 HC0 HC1 HCI HCJ HII HJJ
                    go_wp2_with fail
                    have HVH := hid (vHas_in _ _ C a b _ (by have h := HCQ.out.later (Later.alloc w2.drew (.cells #[.int .i64 a, .int .i64 b] 3)); exact h) (pair_lit w2.drew a b) HMEM.out (by rw [HNC.out]; omega))
                    rcases Nat.eq_zero_or_pos i with hiz | hip
                    · subst hiz
                      have hk0 : ¬ (0 : Int) < ((0 : Nat) : Int) := by omega
                      refine wp_region_held_drew (S := fun w' => w'.cell? adi = some (.int .i64 p) ∧ w'.cell? ⟨adi.block, adi.off + 1, none⟩ = some (.int .i64 q) ∧ w'.cell? (ad.add j) = some (.slice (some adj) 2 cj)) (by kernel_rfl) ⟨d0, d1, dj⟩ (fun hS => ?_)
                      change wpAnyH _ _ _ _ _ 43 _ _ _
                      refine wpAnyH_take (i := 0) (v := .bool true) rfl (by kernel_rfl) (by kernel_rfl) (by kernel_rfl) (fun _ _ _ h => h) (.inl ⟨by kernel_rfl, fun w' hw => by obtain ⟨h0, h1, h2⟩ := hw; go_simp⟩) hS ?_
                      simp only [Act.put, List.setIfInBounds_toArray, List.set_cons_zero, List.set_cons_succ, List.getElem_toArray, List.getElem_cons_zero]
                      refine wpAnyH_take (i := 1) (v := .bool false) rfl (by kernel_rfl) (by kernel_rfl) (by kernel_rfl) (fun _ _ _ h => h) (.inl ⟨by kernel_rfl, fun w' hw => by obtain ⟨h0, h1, h2⟩ := hw; go_simp⟩) hS ?_
                      simp only [Act.put, List.setIfInBounds_toArray, List.set_cons_zero, List.set_cons_succ, List.getElem_toArray, List.getElem_cons_succ, List.getElem_cons_zero]
                      refine wpAnyH_take (i := 2) (v := .bool false) rfl (by kernel_rfl) (by kernel_rfl) (by kernel_rfl) (fun _ _ _ h => h) (.inl ⟨by kernel_rfl, fun w' hw => by obtain ⟨h0, h1, h2⟩ := hw; go_simp⟩) hS ?_
                      simp only [Act.put, List.setIfInBounds_toArray, List.set_cons_zero, List.set_cons_succ, List.getElem_toArray, List.getElem_cons_succ, List.getElem_cons_zero]
                      refine wpAnyH_take (i := 3) (v := .slice a4 nc c4) rfl (by kernel_rfl) (by kernel_rfl) (by kernel_rfl) (fun _ _ _ h => h) (.inl ⟨by kernel_rfl, fun w' hw => by obtain ⟨h0, h1, h2⟩ := hw; go_simp⟩) hS ?_
                      simp only [Act.put, List.setIfInBounds_toArray, List.set_cons_zero, List.set_cons_succ, List.getElem_toArray, List.getElem_cons_succ, List.getElem_cons_zero]
                      refine wpAnyH_take (i := 4) (v := .int .i64 a) rfl (by kernel_rfl) (by kernel_rfl) (by kernel_rfl) (fun _ _ _ h => h) (.inl ⟨by kernel_rfl, fun w' hw => by obtain ⟨h0, h1, h2⟩ := hw; go_simp⟩) hS ?_
                      simp only [Act.put, List.setIfInBounds_toArray, List.set_cons_zero, List.set_cons_succ, List.getElem_toArray, List.getElem_cons_succ, List.getElem_cons_zero]
                      refine wpAnyH_take (i := 5) (v := .int .i64 b) rfl (by kernel_rfl) (by kernel_rfl) (by kernel_rfl) (fun _ _ _ h => h) (.inl ⟨by kernel_rfl, fun w' hw => by obtain ⟨h0, h1, h2⟩ := hw; go_simp⟩) hS ?_
                      simp only [Act.put, List.setIfInBounds_toArray, List.set_cons_zero, List.set_cons_succ, List.getElem_toArray, List.getElem_cons_succ, List.getElem_cons_zero]
                      refine wpAnyH_ready (rs := [6]) (by kernel_rfl) (by simp) (AllReadyH.cons rfl (fun K2 hK2 => ?_) AllReadyH.nil)
                      rw [if_pos (by kernel_rfl)]
                      go_simp
                      refine hK2.out _ _ ⟨(Later.alloc _ _).cell hS.1, (Later.alloc _ _).cell hS.2.1, (Later.alloc _ _).cell hS.2.2⟩ (fun hS5 => ?_)
                      clear hK2 K2
                      refine wpAnyH_ready (rs := [7]) (by kernel_rfl) (by simp) (AllReadyH.cons rfl (fun K3 hK3 => ?_) AllReadyH.nil)
                      rw [if_pos (by kernel_rfl)]
                      go_simp
                      go_at_call 23
                      refine HVH.out.mono ?_
                      rintro e w8 ⟨rfl, n8, rfl⟩
                      have HL8 := hid (show Later w2 ((w2.alloc (.cells #[.int .i64 a, .int .i64 b] 3)).drewN (1 + n8)) from (Later.alloc w2 _).trans (Later.drewN _ _))
                      refine hK3.out _ _ ⟨(Later.drewN _ _).cell hS5.1, (Later.drewN _ _).cell hS5.2.1, (Later.drewN _ _).cell hS5.2.2⟩ (fun hS6 => ?_)
                      clear hK3 K3 hS hS5
                      refine wpAnyH_take (i := 8) (v := .bool false) rfl (by kernel_rfl) (by kernel_rfl) (by kernel_rfl) (fun _ _ _ h => h) (.inl ⟨by kernel_rfl, fun w' hw => by obtain ⟨h0, h1, h2⟩ := hw; go_simp⟩) hS6 ?_
                      simp only [Act.put, List.setIfInBounds_toArray, List.set_cons_zero, List.set_cons_succ, List.getElem_toArray, List.getElem_cons_succ, List.getElem_cons_zero]
                      refine wpAnyH_take (i := 9) (v := .bool false) rfl (by kernel_rfl) (by kernel_rfl) (by kernel_rfl) (fun _ _ _ h => h) (.inl ⟨by kernel_rfl, fun w' hw => by obtain ⟨h0, h1, h2⟩ := hw; go_simp⟩) hS6 ?_
                      simp only [Act.put, List.setIfInBounds_toArray, List.set_cons_zero, List.set_cons_succ, List.getElem_toArray, List.getElem_cons_succ, List.getElem_cons_zero]
                      refine wpAnyH_take (i := 10) (v := .bool false) rfl (by kernel_rfl) (by kernel_rfl) (by kernel_rfl) (fun _ _ _ h => h) (.inl ⟨by kernel_rfl, fun w' hw => by obtain ⟨h0, h1, h2⟩ := hw; go_simp⟩) hS6 ?_
                      simp only [Act.put, List.setIfInBounds_toArray, List.set_cons_zero, List.set_cons_succ, List.getElem_toArray, List.getElem_cons_succ, List.getElem_cons_zero]
                      refine wpAnyH_take (i := 11) (v := .slice (some adi) 2 ci) rfl (by kernel_rfl) (by kernel_rfl) (by kernel_rfl) (fun _ _ _ h => h) (.inl ⟨by kernel_rfl, fun w' hw => by obtain ⟨h0, h1, h2⟩ := hw; go_simp⟩) hS6 ?_
                      simp only [Act.put, List.setIfInBounds_toArray, List.set_cons_zero, List.set_cons_succ, List.getElem_toArray, List.getElem_cons_succ, List.getElem_cons_zero]
                      refine wpAnyH_take (i := 12) (v := .pointer (some adi)) rfl (by kernel_rfl) (by kernel_rfl) (by kernel_rfl) (fun _ _ _ h => h) (.inl ⟨by kernel_rfl, fun w' hw => by obtain ⟨h0, h1, h2⟩ := hw; go_simp⟩) hS6 ?_
                      simp only [Act.put, List.setIfInBounds_toArray, List.set_cons_zero, List.set_cons_succ, List.getElem_toArray, List.getElem_cons_succ, List.getElem_cons_zero]
                      refine wpAnyH_take (i := 13) (v := .int .i64 p) rfl (by kernel_rfl) (by kernel_rfl) (by kernel_rfl) (fun _ _ _ h => h) (.inl ⟨by kernel_rfl, fun w' hw => by obtain ⟨h0, h1, h2⟩ := hw; go_simp⟩) hS6 ?_
                      simp only [Act.put, List.setIfInBounds_toArray, List.set_cons_zero, List.set_cons_succ, List.getElem_toArray, List.getElem_cons_succ, List.getElem_cons_zero]
                      refine wpAnyH_take (i := 14) (v := .slice (some adi) 2 ci) rfl (by kernel_rfl) (by kernel_rfl) (by kernel_rfl) (fun _ _ _ h => h) (.inl ⟨by kernel_rfl, fun w' hw => by obtain ⟨h0, h1, h2⟩ := hw; go_simp⟩) hS6 ?_
                      simp only [Act.put, List.setIfInBounds_toArray, List.set_cons_zero, List.set_cons_succ, List.getElem_toArray, List.getElem_cons_succ, List.getElem_cons_zero]
                      refine wpAnyH_take (i := 15) (v := .pointer (some ⟨adi.block, adi.off + 1, none⟩)) rfl (by kernel_rfl) (by kernel_rfl) (by kernel_rfl) (fun _ _ _ h => h) (.inl ⟨by kernel_rfl, fun w' hw => by obtain ⟨h0, h1, h2⟩ := hw; go_simp⟩) hS6 ?_
                      simp only [Act.put, List.setIfInBounds_toArray, List.set_cons_zero, List.set_cons_succ, List.getElem_toArray, List.getElem_cons_succ, List.getElem_cons_zero]
                      refine wpAnyH_take (i := 16) (v := .int .i64 q) rfl (by kernel_rfl) (by kernel_rfl) (by kernel_rfl) (fun _ _ _ h => h) (.inl ⟨by kernel_rfl, fun w' hw => by obtain ⟨h0, h1, h2⟩ := hw; go_simp⟩) hS6 ?_
                      simp only [Act.put, List.setIfInBounds_toArray, List.set_cons_zero, List.set_cons_succ, List.getElem_toArray, List.getElem_cons_succ, List.getElem_cons_zero]
                      refine wpAnyH_take (i := 17) (v := .int .i64 k) rfl (by kernel_rfl) (by kernel_rfl) (by kernel_rfl) (fun _ _ _ h => h) (.inl ⟨by kernel_rfl, fun w' hw => by obtain ⟨h0, h1, h2⟩ := hw; go_simp⟩) hS6 ?_
                      simp only [Act.put, List.setIfInBounds_toArray, List.set_cons_zero, List.set_cons_succ, List.getElem_toArray, List.getElem_cons_succ, List.getElem_cons_zero]
                      refine wpAnyH_take (i := 18) (v := .int .i64 c) rfl (by kernel_rfl) (by kernel_rfl) (by kernel_rfl) (fun _ _ _ h => h) (.inl ⟨by kernel_rfl, fun w' hw => by obtain ⟨h0, h1, h2⟩ := hw; go_simp⟩) hS6 ?_
                      simp only [Act.put, List.setIfInBounds_toArray, List.set_cons_zero, List.set_cons_succ, List.getElem_toArray, List.getElem_cons_succ, List.getElem_cons_zero]
                      refine wpAnyH_ready (rs := [19]) (by kernel_rfl) (by simp) (AllReadyH.cons rfl (fun K4 hK4 => ?_) AllReadyH.nil)
                      rw [if_pos (by kernel_rfl)]
                      go_simp
                      go_at_call 21
                      refine (HVP.out _).mono ?_
                      rintro e w9 ⟨rfl, hL9⟩
                      have HL9 := hid (HL8.out.trans hL9)
                      refine hK4.out _ _ ⟨hL9.cell hS6.1, hL9.cell hS6.2.1, hL9.cell hS6.2.2⟩ (fun hS7 => ?_)
                      clear hK4 K4 hS6 hL9
                      refine wpAnyH_take (i := 20) (v := .bool false) rfl (by kernel_rfl) (by kernel_rfl) (by kernel_rfl) (fun _ _ _ h => h) (.inl ⟨by kernel_rfl, fun w' hw => by obtain ⟨h0, h1, h2⟩ := hw; go_simp⟩) hS7 ?_
                      simp only [Act.put, List.setIfInBounds_toArray, List.set_cons_zero, List.set_cons_succ, List.getElem_toArray, List.getElem_cons_succ, List.getElem_cons_zero]
                      refine wpAnyH_take (i := 21) (v := .bool false) rfl (by kernel_rfl) (by kernel_rfl) (by kernel_rfl) (fun _ _ _ h => h) (.inl ⟨by kernel_rfl, fun w' hw => by obtain ⟨h0, h1, h2⟩ := hw; go_simp⟩) hS7 ?_
                      simp only [Act.put, List.setIfInBounds_toArray, List.set_cons_zero, List.set_cons_succ, List.getElem_toArray, List.getElem_cons_succ, List.getElem_cons_zero]
                      refine wpAnyH_take (i := 22) (v := .bool false) rfl (by kernel_rfl) (by kernel_rfl) (by kernel_rfl) (fun _ _ _ h => h) (.inl ⟨by kernel_rfl, fun w' hw => by obtain ⟨h0, h1, h2⟩ := hw; go_simp⟩) hS7 ?_
                      simp only [Act.put, List.setIfInBounds_toArray, List.set_cons_zero, List.set_cons_succ, List.getElem_toArray, List.getElem_cons_succ, List.getElem_cons_zero]
                      refine wpAnyH_take (i := 23) (v := .slice (some adi) 2 ci) rfl (by kernel_rfl) (by kernel_rfl) (by kernel_rfl) (fun _ _ _ h => h) (.inl ⟨by kernel_rfl, fun w' hw => by obtain ⟨h0, h1, h2⟩ := hw; go_simp⟩) hS7 ?_
                      simp only [Act.put, List.setIfInBounds_toArray, List.set_cons_zero, List.set_cons_succ, List.getElem_toArray, List.getElem_cons_succ, List.getElem_cons_zero]
                      refine wpAnyH_take (i := 24) (v := .pointer (some adi)) rfl (by kernel_rfl) (by kernel_rfl) (by kernel_rfl) (fun _ _ _ h => h) (.inl ⟨by kernel_rfl, fun w' hw => by obtain ⟨h0, h1, h2⟩ := hw; go_simp⟩) hS7 ?_
                      simp only [Act.put, List.setIfInBounds_toArray, List.set_cons_zero, List.set_cons_succ, List.getElem_toArray, List.getElem_cons_succ, List.getElem_cons_zero]
                      refine wpAnyH_take (i := 25) (v := .int .i64 p) rfl (by kernel_rfl) (by kernel_rfl) (by kernel_rfl) (fun _ _ _ h => h) (.inl ⟨by kernel_rfl, fun w' hw => by obtain ⟨h0, h1, h2⟩ := hw; go_simp⟩) hS7 ?_
                      simp only [Act.put, List.setIfInBounds_toArray, List.set_cons_zero, List.set_cons_succ, List.getElem_toArray, List.getElem_cons_succ, List.getElem_cons_zero]
                      refine wpAnyH_take (i := 26) (v := .int .i64 m) rfl (by kernel_rfl) (by kernel_rfl) (by kernel_rfl) (fun _ _ _ h => h) (.inl ⟨by kernel_rfl, fun w' hw => by obtain ⟨h0, h1, h2⟩ := hw; go_simp⟩) hS7 ?_
                      simp only [Act.put, List.setIfInBounds_toArray, List.set_cons_zero, List.set_cons_succ, List.getElem_toArray, List.getElem_cons_succ, List.getElem_cons_zero]
                      refine wpAnyH_take (i := 27) (v := .bool false) rfl (by kernel_rfl) (by kernel_rfl) (by kernel_rfl) (fun _ _ _ h => h) (.inl ⟨by kernel_rfl, fun w' hw => by obtain ⟨h0, h1, h2⟩ := hw; go_simp⟩) hS7 ?_
                      simp only [Act.put, List.setIfInBounds_toArray, List.set_cons_zero, List.set_cons_succ, List.getElem_toArray, List.getElem_cons_succ, List.getElem_cons_zero]
                      refine wpAnyH_take (i := 28) (v := .bool false) rfl (by kernel_rfl) (by kernel_rfl) (by kernel_rfl) (fun _ _ _ h => h) (.inl ⟨by kernel_rfl, fun w' hw => by obtain ⟨h0, h1, h2⟩ := hw; go_simp⟩) hS7 ?_
                      simp only [Act.put, List.setIfInBounds_toArray, List.set_cons_zero, List.set_cons_succ, List.getElem_toArray, List.getElem_cons_succ, List.getElem_cons_zero]
                      refine wpAnyH_take (i := 29) (v := .bool false) rfl (by kernel_rfl) (by kernel_rfl) (by kernel_rfl) (fun _ _ _ h => h) (.inl ⟨by kernel_rfl, fun w' hw => by obtain ⟨h0, h1, h2⟩ := hw; go_simp⟩) hS7 ?_
                      simp only [Act.put, List.setIfInBounds_toArray, List.set_cons_zero, List.set_cons_succ, List.getElem_toArray, List.getElem_cons_succ, List.getElem_cons_zero]
                      refine wpAnyH_take (i := 30) (v := .int .i64 ((0 : Nat) : Int)) rfl (by kernel_rfl) (by kernel_rfl) (by kernel_rfl) (fun _ _ _ h => h) (.inl ⟨by kernel_rfl, fun w' hw => by obtain ⟨h0, h1, h2⟩ := hw; go_simp⟩) hS7 ?_
                      simp only [Act.put, List.setIfInBounds_toArray, List.set_cons_zero, List.set_cons_succ, List.getElem_toArray, List.getElem_cons_succ, List.getElem_cons_zero]
                      refine wpAnyH_take (i := 31) (v := .bool false) rfl (by kernel_rfl) (by kernel_rfl) (by kernel_rfl) (fun _ _ _ h => h) (.inl ⟨by kernel_rfl, fun w' hw => by obtain ⟨h0, h1, h2⟩ := hw; go_simp⟩) hS7 ?_
                      simp only [Act.put, List.setIfInBounds_toArray, List.set_cons_zero, List.set_cons_succ, List.getElem_toArray, List.getElem_cons_succ, List.getElem_cons_zero]
                      refine wpAnyH_take (i := 32) (v := .bool false) rfl (by kernel_rfl) (by kernel_rfl) (by kernel_rfl) (fun _ _ _ h => h) (.inl ⟨by kernel_rfl, fun w' hw => by obtain ⟨h0, h1, h2⟩ := hw; go_simp⟩) hS7 ?_
                      simp only [Act.put, List.setIfInBounds_toArray, List.set_cons_zero, List.set_cons_succ, List.getElem_toArray, List.getElem_cons_succ, List.getElem_cons_zero]
                      refine wpAnyH_take (i := 33) (v := undef) rfl (by kernel_rfl) (by kernel_rfl) (by kernel_rfl) (fun _ _ _ h => h) (.inr ⟨by kernel_rfl, rfl⟩) hS7 ?_
                      simp only [Act.put, List.setIfInBounds_toArray, List.set_cons_zero, List.set_cons_succ, List.getElem_toArray, List.getElem_cons_succ, List.getElem_cons_zero]
                      refine wpAnyH_take (i := 34) (v := undef) rfl (by kernel_rfl) (by kernel_rfl) (by kernel_rfl) (fun _ _ _ h => h) (.inr ⟨by kernel_rfl, rfl⟩) hS7 ?_
                      simp only [Act.put, List.setIfInBounds_toArray, List.set_cons_zero, List.set_cons_succ, List.getElem_toArray, List.getElem_cons_succ, List.getElem_cons_zero]
                      refine wpAnyH_take (i := 35) (v := undef) rfl (by kernel_rfl) (by kernel_rfl) (by kernel_rfl) (fun _ _ _ h => h) (.inr ⟨by kernel_rfl, rfl⟩) hS7 ?_
                      simp only [Act.put, List.setIfInBounds_toArray, List.set_cons_zero, List.set_cons_succ, List.getElem_toArray, List.getElem_cons_succ, List.getElem_cons_zero]
                      refine wpAnyH_take (i := 36) (v := undef) rfl (by kernel_rfl) (by kernel_rfl) (by kernel_rfl) (fun _ _ _ h => h) (.inr ⟨by kernel_rfl, rfl⟩) hS7 ?_
                      simp only [Act.put, List.setIfInBounds_toArray, List.set_cons_zero, List.set_cons_succ, List.getElem_toArray, List.getElem_cons_succ, List.getElem_cons_zero]
                      refine wpAnyH_take (i := 37) (v := undef) rfl (by kernel_rfl) (by kernel_rfl) (by kernel_rfl) (fun _ _ _ h => h) (.inr ⟨by kernel_rfl, rfl⟩) hS7 ?_
                      simp only [Act.put, List.setIfInBounds_toArray, List.set_cons_zero, List.set_cons_succ, List.getElem_toArray, List.getElem_cons_succ, List.getElem_cons_zero]
                      refine wpAnyH_take (i := 38) (v := undef) rfl (by kernel_rfl) (by kernel_rfl) (by kernel_rfl) (fun _ _ _ h => h) (.inr ⟨by kernel_rfl, rfl⟩) hS7 ?_
                      simp only [Act.put, List.setIfInBounds_toArray, List.set_cons_zero, List.set_cons_succ, List.getElem_toArray, List.getElem_cons_succ, List.getElem_cons_zero]
                      refine wpAnyH_take (i := 39) (v := undef) rfl (by kernel_rfl) (by kernel_rfl) (by kernel_rfl) (fun _ _ _ h => h) (.inr ⟨by kernel_rfl, rfl⟩) hS7 ?_
                      simp only [Act.put, List.setIfInBounds_toArray, List.set_cons_zero, List.set_cons_succ, List.getElem_toArray, List.getElem_cons_succ, List.getElem_cons_zero]
                      refine wpAnyH_take (i := 40) (v := undef) rfl (by kernel_rfl) (by kernel_rfl) (by kernel_rfl) (fun _ _ _ h => h) (.inr ⟨by kernel_rfl, rfl⟩) hS7 ?_
                      simp only [Act.put, List.setIfInBounds_toArray, List.set_cons_zero, List.set_cons_succ, List.getElem_toArray, List.getElem_cons_succ, List.getElem_cons_zero]
                      refine wpAnyH_take (i := 41) (v := .bool false) rfl (by kernel_rfl) (by kernel_rfl) (by kernel_rfl) (fun _ _ _ h => h) (.inl ⟨by kernel_rfl, fun w' hw => by obtain ⟨h0, h1, h2⟩ := hw; go_simp⟩) hS7 ?_
                      simp only [Act.put, List.setIfInBounds_toArray, List.set_cons_zero, List.set_cons_succ, List.getElem_toArray, List.getElem_cons_succ, List.getElem_cons_zero]
                      refine wpAnyH_take (i := 42) (v := .bool false) rfl (by kernel_rfl) (by kernel_rfl) (by kernel_rfl) (fun _ _ _ h => h) (.inl ⟨by kernel_rfl, fun w' hw => by obtain ⟨h0, h1, h2⟩ := hw; go_simp⟩) hS7 ?_
                      simp only [Act.put, List.setIfInBounds_toArray, List.set_cons_zero, List.set_cons_succ, List.getElem_toArray, List.getElem_cons_succ, List.getElem_cons_zero]
                      refine wpAnyH_done (by kernel_rfl) ?_ _
                      go_wp2_with fail
                      go_roundw
                      case rel => first | exact ⟨1, hlt, by go_num, HLq.out.trans HL9.out⟩ | (repeat apply Exists.intro; refine And.intro ?_ rfl; exact ⟨1, hlt, by go_num, HLq.out.trans HL9.out⟩)
                      case measure => simp [intOf]; omega
                    · have hk0 : (0 : Int) < (i : Int) := by omega
                      have hij := HJI.out hip
                      have hk1 : (i : Int) - 1 = (j : Int) := by omega
                      have hkn : (j : Int) < (n : Int) := by omega
                      have hjw : IntKind.i64.wrap (j : Int) = (j : Int) := wrapEq (by omega)
                      clear hij
                      refine wp_region_held_drew (S := fun w' => w'.cell? adi = some (.int .i64 p) ∧ w'.cell? ⟨adi.block, adi.off + 1, none⟩ = some (.int .i64 q) ∧ w'.cell? (ad.add j) = some (.slice (some adj) 2 cj)) (by kernel_rfl) ⟨d0, d1, dj⟩ (fun hS => ?_)
                      change wpAnyH _ _ _ _ _ 43 _ _ _
                      refine wpAnyH_take (i := 0) (v := .bool true) rfl (by kernel_rfl) (by kernel_rfl) (by kernel_rfl) (fun _ _ _ h => h) (.inl ⟨by kernel_rfl, fun w' hw => by obtain ⟨h0, h1, h2⟩ := hw; go_simp⟩) hS ?_
                      simp only [Act.put, List.setIfInBounds_toArray, List.set_cons_zero, List.set_cons_succ, List.getElem_toArray, List.getElem_cons_zero]
                      refine wpAnyH_take (i := 1) (v := .bool false) rfl (by kernel_rfl) (by kernel_rfl) (by kernel_rfl) (fun _ _ _ h => h) (.inl ⟨by kernel_rfl, fun w' hw => by obtain ⟨h0, h1, h2⟩ := hw; go_simp⟩) hS ?_
                      simp only [Act.put, List.setIfInBounds_toArray, List.set_cons_zero, List.set_cons_succ, List.getElem_toArray, List.getElem_cons_succ, List.getElem_cons_zero]
                      refine wpAnyH_take (i := 2) (v := .bool false) rfl (by kernel_rfl) (by kernel_rfl) (by kernel_rfl) (fun _ _ _ h => h) (.inl ⟨by kernel_rfl, fun w' hw => by obtain ⟨h0, h1, h2⟩ := hw; go_simp⟩) hS ?_
                      simp only [Act.put, List.setIfInBounds_toArray, List.set_cons_zero, List.set_cons_succ, List.getElem_toArray, List.getElem_cons_succ, List.getElem_cons_zero]
                      refine wpAnyH_take (i := 3) (v := .slice a4 nc c4) rfl (by kernel_rfl) (by kernel_rfl) (by kernel_rfl) (fun _ _ _ h => h) (.inl ⟨by kernel_rfl, fun w' hw => by obtain ⟨h0, h1, h2⟩ := hw; go_simp⟩) hS ?_
                      simp only [Act.put, List.setIfInBounds_toArray, List.set_cons_zero, List.set_cons_succ, List.getElem_toArray, List.getElem_cons_succ, List.getElem_cons_zero]
                      refine wpAnyH_take (i := 4) (v := .int .i64 a) rfl (by kernel_rfl) (by kernel_rfl) (by kernel_rfl) (fun _ _ _ h => h) (.inl ⟨by kernel_rfl, fun w' hw => by obtain ⟨h0, h1, h2⟩ := hw; go_simp⟩) hS ?_
                      simp only [Act.put, List.setIfInBounds_toArray, List.set_cons_zero, List.set_cons_succ, List.getElem_toArray, List.getElem_cons_succ, List.getElem_cons_zero]
                      refine wpAnyH_take (i := 5) (v := .int .i64 b) rfl (by kernel_rfl) (by kernel_rfl) (by kernel_rfl) (fun _ _ _ h => h) (.inl ⟨by kernel_rfl, fun w' hw => by obtain ⟨h0, h1, h2⟩ := hw; go_simp⟩) hS ?_
                      simp only [Act.put, List.setIfInBounds_toArray, List.set_cons_zero, List.set_cons_succ, List.getElem_toArray, List.getElem_cons_succ, List.getElem_cons_zero]
                      refine wpAnyH_ready (rs := [6]) (by kernel_rfl) (by simp) (AllReadyH.cons rfl (fun K2 hK2 => ?_) AllReadyH.nil)
                      rw [if_pos (by kernel_rfl)]
                      go_simp
                      refine hK2.out _ _ ⟨(Later.alloc _ _).cell hS.1, (Later.alloc _ _).cell hS.2.1, (Later.alloc _ _).cell hS.2.2⟩ (fun hS5 => ?_)
                      clear hK2 K2
                      refine wpAnyH_ready (rs := [7]) (by kernel_rfl) (by simp) (AllReadyH.cons rfl (fun K3 hK3 => ?_) AllReadyH.nil)
                      rw [if_pos (by kernel_rfl)]
                      go_simp
                      go_at_call 23
                      refine HVH.out.mono ?_
                      rintro e w8 ⟨rfl, n8, rfl⟩
                      have HL8 := hid (show Later w2 ((w2.alloc (.cells #[.int .i64 a, .int .i64 b] 3)).drewN (1 + n8)) from (Later.alloc w2 _).trans (Later.drewN _ _))
                      refine hK3.out _ _ ⟨(Later.drewN _ _).cell hS5.1, (Later.drewN _ _).cell hS5.2.1, (Later.drewN _ _).cell hS5.2.2⟩ (fun hS6 => ?_)
                      clear hK3 K3 hS hS5
                      refine wpAnyH_take (i := 8) (v := .bool false) rfl (by kernel_rfl) (by kernel_rfl) (by kernel_rfl) (fun _ _ _ h => h) (.inl ⟨by kernel_rfl, fun w' hw => by obtain ⟨h0, h1, h2⟩ := hw; go_simp⟩) hS6 ?_
                      simp only [Act.put, List.setIfInBounds_toArray, List.set_cons_zero, List.set_cons_succ, List.getElem_toArray, List.getElem_cons_succ, List.getElem_cons_zero]
                      refine wpAnyH_take (i := 9) (v := .bool false) rfl (by kernel_rfl) (by kernel_rfl) (by kernel_rfl) (fun _ _ _ h => h) (.inl ⟨by kernel_rfl, fun w' hw => by obtain ⟨h0, h1, h2⟩ := hw; go_simp⟩) hS6 ?_
                      simp only [Act.put, List.setIfInBounds_toArray, List.set_cons_zero, List.set_cons_succ, List.getElem_toArray, List.getElem_cons_succ, List.getElem_cons_zero]
                      refine wpAnyH_take (i := 10) (v := .bool false) rfl (by kernel_rfl) (by kernel_rfl) (by kernel_rfl) (fun _ _ _ h => h) (.inl ⟨by kernel_rfl, fun w' hw => by obtain ⟨h0, h1, h2⟩ := hw; go_simp⟩) hS6 ?_
                      simp only [Act.put, List.setIfInBounds_toArray, List.set_cons_zero, List.set_cons_succ, List.getElem_toArray, List.getElem_cons_succ, List.getElem_cons_zero]
                      refine wpAnyH_take (i := 11) (v := .slice (some adi) 2 ci) rfl (by kernel_rfl) (by kernel_rfl) (by kernel_rfl) (fun _ _ _ h => h) (.inl ⟨by kernel_rfl, fun w' hw => by obtain ⟨h0, h1, h2⟩ := hw; go_simp⟩) hS6 ?_
                      simp only [Act.put, List.setIfInBounds_toArray, List.set_cons_zero, List.set_cons_succ, List.getElem_toArray, List.getElem_cons_succ, List.getElem_cons_zero]
                      refine wpAnyH_take (i := 12) (v := .pointer (some adi)) rfl (by kernel_rfl) (by kernel_rfl) (by kernel_rfl) (fun _ _ _ h => h) (.inl ⟨by kernel_rfl, fun w' hw => by obtain ⟨h0, h1, h2⟩ := hw; go_simp⟩) hS6 ?_
                      simp only [Act.put, List.setIfInBounds_toArray, List.set_cons_zero, List.set_cons_succ, List.getElem_toArray, List.getElem_cons_succ, List.getElem_cons_zero]
                      refine wpAnyH_take (i := 13) (v := .int .i64 p) rfl (by kernel_rfl) (by kernel_rfl) (by kernel_rfl) (fun _ _ _ h => h) (.inl ⟨by kernel_rfl, fun w' hw => by obtain ⟨h0, h1, h2⟩ := hw; go_simp⟩) hS6 ?_
                      simp only [Act.put, List.setIfInBounds_toArray, List.set_cons_zero, List.set_cons_succ, List.getElem_toArray, List.getElem_cons_succ, List.getElem_cons_zero]
                      refine wpAnyH_take (i := 14) (v := .slice (some adi) 2 ci) rfl (by kernel_rfl) (by kernel_rfl) (by kernel_rfl) (fun _ _ _ h => h) (.inl ⟨by kernel_rfl, fun w' hw => by obtain ⟨h0, h1, h2⟩ := hw; go_simp⟩) hS6 ?_
                      simp only [Act.put, List.setIfInBounds_toArray, List.set_cons_zero, List.set_cons_succ, List.getElem_toArray, List.getElem_cons_succ, List.getElem_cons_zero]
                      refine wpAnyH_take (i := 15) (v := .pointer (some ⟨adi.block, adi.off + 1, none⟩)) rfl (by kernel_rfl) (by kernel_rfl) (by kernel_rfl) (fun _ _ _ h => h) (.inl ⟨by kernel_rfl, fun w' hw => by obtain ⟨h0, h1, h2⟩ := hw; go_simp⟩) hS6 ?_
                      simp only [Act.put, List.setIfInBounds_toArray, List.set_cons_zero, List.set_cons_succ, List.getElem_toArray, List.getElem_cons_succ, List.getElem_cons_zero]
                      refine wpAnyH_take (i := 16) (v := .int .i64 q) rfl (by kernel_rfl) (by kernel_rfl) (by kernel_rfl) (fun _ _ _ h => h) (.inl ⟨by kernel_rfl, fun w' hw => by obtain ⟨h0, h1, h2⟩ := hw; go_simp⟩) hS6 ?_
                      simp only [Act.put, List.setIfInBounds_toArray, List.set_cons_zero, List.set_cons_succ, List.getElem_toArray, List.getElem_cons_succ, List.getElem_cons_zero]
                      refine wpAnyH_take (i := 17) (v := .int .i64 k) rfl (by kernel_rfl) (by kernel_rfl) (by kernel_rfl) (fun _ _ _ h => h) (.inl ⟨by kernel_rfl, fun w' hw => by obtain ⟨h0, h1, h2⟩ := hw; go_simp⟩) hS6 ?_
                      simp only [Act.put, List.setIfInBounds_toArray, List.set_cons_zero, List.set_cons_succ, List.getElem_toArray, List.getElem_cons_succ, List.getElem_cons_zero]
                      refine wpAnyH_take (i := 18) (v := .int .i64 c) rfl (by kernel_rfl) (by kernel_rfl) (by kernel_rfl) (fun _ _ _ h => h) (.inl ⟨by kernel_rfl, fun w' hw => by obtain ⟨h0, h1, h2⟩ := hw; go_simp⟩) hS6 ?_
                      simp only [Act.put, List.setIfInBounds_toArray, List.set_cons_zero, List.set_cons_succ, List.getElem_toArray, List.getElem_cons_succ, List.getElem_cons_zero]
                      refine wpAnyH_ready (rs := [19]) (by kernel_rfl) (by simp) (AllReadyH.cons rfl (fun K4 hK4 => ?_) AllReadyH.nil)
                      rw [if_pos (by kernel_rfl)]
                      go_simp
                      go_at_call 21
                      refine (HVP.out _).mono ?_
                      rintro e w9 ⟨rfl, hL9⟩
                      have HL9 := hid (HL8.out.trans hL9)
                      refine hK4.out _ _ ⟨hL9.cell hS6.1, hL9.cell hS6.2.1, hL9.cell hS6.2.2⟩ (fun hS7 => ?_)
                      clear hK4 K4 hS6 hL9
                      refine wpAnyH_take (i := 20) (v := .bool false) rfl (by kernel_rfl) (by kernel_rfl) (by kernel_rfl) (fun _ _ _ h => h) (.inl ⟨by kernel_rfl, fun w' hw => by obtain ⟨h0, h1, h2⟩ := hw; go_simp⟩) hS7 ?_
                      simp only [Act.put, List.setIfInBounds_toArray, List.set_cons_zero, List.set_cons_succ, List.getElem_toArray, List.getElem_cons_succ, List.getElem_cons_zero]
                      refine wpAnyH_take (i := 21) (v := .bool false) rfl (by kernel_rfl) (by kernel_rfl) (by kernel_rfl) (fun _ _ _ h => h) (.inl ⟨by kernel_rfl, fun w' hw => by obtain ⟨h0, h1, h2⟩ := hw; go_simp⟩) hS7 ?_
                      simp only [Act.put, List.setIfInBounds_toArray, List.set_cons_zero, List.set_cons_succ, List.getElem_toArray, List.getElem_cons_succ, List.getElem_cons_zero]
                      refine wpAnyH_take (i := 22) (v := .bool false) rfl (by kernel_rfl) (by kernel_rfl) (by kernel_rfl) (fun _ _ _ h => h) (.inl ⟨by kernel_rfl, fun w' hw => by obtain ⟨h0, h1, h2⟩ := hw; go_simp⟩) hS7 ?_
                      simp only [Act.put, List.setIfInBounds_toArray, List.set_cons_zero, List.set_cons_succ, List.getElem_toArray, List.getElem_cons_succ, List.getElem_cons_zero]
                      refine wpAnyH_take (i := 23) (v := .slice (some adi) 2 ci) rfl (by kernel_rfl) (by kernel_rfl) (by kernel_rfl) (fun _ _ _ h => h) (.inl ⟨by kernel_rfl, fun w' hw => by obtain ⟨h0, h1, h2⟩ := hw; go_simp⟩) hS7 ?_
                      simp only [Act.put, List.setIfInBounds_toArray, List.set_cons_zero, List.set_cons_succ, List.getElem_toArray, List.getElem_cons_succ, List.getElem_cons_zero]
                      refine wpAnyH_take (i := 24) (v := .pointer (some adi)) rfl (by kernel_rfl) (by kernel_rfl) (by kernel_rfl) (fun _ _ _ h => h) (.inl ⟨by kernel_rfl, fun w' hw => by obtain ⟨h0, h1, h2⟩ := hw; go_simp⟩) hS7 ?_
                      simp only [Act.put, List.setIfInBounds_toArray, List.set_cons_zero, List.set_cons_succ, List.getElem_toArray, List.getElem_cons_succ, List.getElem_cons_zero]
                      refine wpAnyH_take (i := 25) (v := .int .i64 p) rfl (by kernel_rfl) (by kernel_rfl) (by kernel_rfl) (fun _ _ _ h => h) (.inl ⟨by kernel_rfl, fun w' hw => by obtain ⟨h0, h1, h2⟩ := hw; go_simp⟩) hS7 ?_
                      simp only [Act.put, List.setIfInBounds_toArray, List.set_cons_zero, List.set_cons_succ, List.getElem_toArray, List.getElem_cons_succ, List.getElem_cons_zero]
                      refine wpAnyH_take (i := 26) (v := .int .i64 m) rfl (by kernel_rfl) (by kernel_rfl) (by kernel_rfl) (fun _ _ _ h => h) (.inl ⟨by kernel_rfl, fun w' hw => by obtain ⟨h0, h1, h2⟩ := hw; go_simp⟩) hS7 ?_
                      simp only [Act.put, List.setIfInBounds_toArray, List.set_cons_zero, List.set_cons_succ, List.getElem_toArray, List.getElem_cons_succ, List.getElem_cons_zero]
                      refine wpAnyH_take (i := 27) (v := .bool false) rfl (by kernel_rfl) (by kernel_rfl) (by kernel_rfl) (fun _ _ _ h => h) (.inl ⟨by kernel_rfl, fun w' hw => by obtain ⟨h0, h1, h2⟩ := hw; go_simp⟩) hS7 ?_
                      simp only [Act.put, List.setIfInBounds_toArray, List.set_cons_zero, List.set_cons_succ, List.getElem_toArray, List.getElem_cons_succ, List.getElem_cons_zero]
                      refine wpAnyH_take (i := 28) (v := .bool false) rfl (by kernel_rfl) (by kernel_rfl) (by kernel_rfl) (fun _ _ _ h => h) (.inl ⟨by kernel_rfl, fun w' hw => by obtain ⟨h0, h1, h2⟩ := hw; go_simp⟩) hS7 ?_
                      simp only [Act.put, List.setIfInBounds_toArray, List.set_cons_zero, List.set_cons_succ, List.getElem_toArray, List.getElem_cons_succ, List.getElem_cons_zero]
                      refine wpAnyH_take (i := 29) (v := .bool false) rfl (by kernel_rfl) (by kernel_rfl) (by kernel_rfl) (fun _ _ _ h => h) (.inl ⟨by kernel_rfl, fun w' hw => by obtain ⟨h0, h1, h2⟩ := hw; go_simp⟩) hS7 ?_
                      simp only [Act.put, List.setIfInBounds_toArray, List.set_cons_zero, List.set_cons_succ, List.getElem_toArray, List.getElem_cons_succ, List.getElem_cons_zero]
                      refine wpAnyH_take (i := 30) (v := .int .i64 (i : Int)) rfl (by kernel_rfl) (by kernel_rfl) (by kernel_rfl) (fun _ _ _ h => h) (.inl ⟨by kernel_rfl, fun w' hw => by obtain ⟨h0, h1, h2⟩ := hw; go_simp⟩) hS7 ?_
                      simp only [Act.put, List.setIfInBounds_toArray, List.set_cons_zero, List.set_cons_succ, List.getElem_toArray, List.getElem_cons_succ, List.getElem_cons_zero]
                      refine wpAnyH_take (i := 31) (v := .bool true) rfl (by kernel_rfl) (by kernel_rfl) (by kernel_rfl) (fun _ _ _ h => h) (.inl ⟨by kernel_rfl, fun w' hw => by obtain ⟨h0, h1, h2⟩ := hw; go_simp⟩) hS7 ?_
                      simp only [Act.put, List.setIfInBounds_toArray, List.set_cons_zero, List.set_cons_succ, List.getElem_toArray, List.getElem_cons_succ, List.getElem_cons_zero]
                      refine wpAnyH_take (i := 32) (v := .bool true) rfl (by kernel_rfl) (by kernel_rfl) (by kernel_rfl) (fun _ _ _ h => h) (.inl ⟨by kernel_rfl, fun w' hw => by obtain ⟨h0, h1, h2⟩ := hw; go_simp⟩) hS7 ?_
                      simp only [Act.put, List.setIfInBounds_toArray, List.set_cons_zero, List.set_cons_succ, List.getElem_toArray, List.getElem_cons_succ, List.getElem_cons_zero]
                      refine wpAnyH_take (i := 33) (v := .slice (some ad) n c2) rfl (by kernel_rfl) (by kernel_rfl) (by kernel_rfl) (fun _ _ _ h => h) (.inl ⟨by kernel_rfl, fun w' hw => by obtain ⟨h0, h1, h2⟩ := hw; go_simp⟩) hS7 ?_
                      simp only [Act.put, List.setIfInBounds_toArray, List.set_cons_zero, List.set_cons_succ, List.getElem_toArray, List.getElem_cons_succ, List.getElem_cons_zero]
                      refine wpAnyH_take (i := 34) (v := .int .i64 (i : Int)) rfl (by kernel_rfl) (by kernel_rfl) (by kernel_rfl) (fun _ _ _ h => h) (.inl ⟨by kernel_rfl, fun w' hw => by obtain ⟨h0, h1, h2⟩ := hw; go_simp⟩) hS7 ?_
                      simp only [Act.put, List.setIfInBounds_toArray, List.set_cons_zero, List.set_cons_succ, List.getElem_toArray, List.getElem_cons_succ, List.getElem_cons_zero]
                      refine wpAnyH_take (i := 35) (v := .int .i64 j) rfl (by kernel_rfl) (by kernel_rfl) (by kernel_rfl) (fun _ _ _ h => h) (.inl ⟨by kernel_rfl, fun w' hw => by obtain ⟨h0, h1, h2⟩ := hw; go_simp⟩) hS7 ?_
                      simp only [Act.put, List.setIfInBounds_toArray, List.set_cons_zero, List.set_cons_succ, List.getElem_toArray, List.getElem_cons_succ, List.getElem_cons_zero]
                      refine wpAnyH_take (i := 36) (v := .pointer (some (ad.add j))) rfl (by kernel_rfl) (by kernel_rfl) (by kernel_rfl) (fun _ _ _ h => h) (.inl ⟨by kernel_rfl, fun w' hw => by obtain ⟨h0, h1, h2⟩ := hw; go_simp⟩) hS7 ?_
                      simp only [Act.put, List.setIfInBounds_toArray, List.set_cons_zero, List.set_cons_succ, List.getElem_toArray, List.getElem_cons_succ, List.getElem_cons_zero]
                      refine wpAnyH_take (i := 37) (v := .slice (some adj) 2 cj) rfl (by kernel_rfl) (by kernel_rfl) (by kernel_rfl) (fun _ _ _ h => h) (.inl ⟨by kernel_rfl, fun w' hw => by obtain ⟨h0, h1, h2⟩ := hw; go_simp⟩) hS7 ?_
                      simp only [Act.put, List.setIfInBounds_toArray, List.set_cons_zero, List.set_cons_succ, List.getElem_toArray, List.getElem_cons_succ, List.getElem_cons_zero]
                      refine wpAnyH_take (i := 38) (v := .slice (some adi) 2 ci) rfl (by kernel_rfl) (by kernel_rfl) (by kernel_rfl) (fun _ _ _ h => h) (.inl ⟨by kernel_rfl, fun w' hw => by obtain ⟨h0, h1, h2⟩ := hw; go_simp⟩) hS7 ?_
                      simp only [Act.put, List.setIfInBounds_toArray, List.set_cons_zero, List.set_cons_succ, List.getElem_toArray, List.getElem_cons_succ, List.getElem_cons_zero]
                      refine wpAnyH_ready (rs := [39]) (by kernel_rfl) (by simp) (AllReadyH.cons rfl (fun K5 hK5 => ?_) AllReadyH.nil)
                      rw [if_pos (by kernel_rfl)]
                      go_simp
                      go_at_call 24
                      refine (vBefore_lt _ _ r s p q w9 (HJQ.out.later HL9.out) (HIQ.out.later HL9.out) (HBB2.out hip)).mono ?_
                      rintro e w10 ⟨rfl, n10, rfl⟩
                      refine hK5.out _ _ ⟨(Later.drewN _ _).cell hS7.1, (Later.drewN _ _).cell hS7.2.1, (Later.drewN _ _).cell hS7.2.2⟩ (fun hS8 => ?_)
                      clear hK5 K5 hS7
                      refine wpAnyH_take (i := 40) (v := .bool false) rfl (by kernel_rfl) (by kernel_rfl) (by kernel_rfl) (fun _ _ _ h => h) (.inl ⟨by kernel_rfl, fun w' hw => by obtain ⟨h0, h1, h2⟩ := hw; go_simp⟩) hS8 ?_
                      simp only [Act.put, List.setIfInBounds_toArray, List.set_cons_zero, List.set_cons_succ, List.getElem_toArray, List.getElem_cons_succ, List.getElem_cons_zero]
                      refine wpAnyH_take (i := 41) (v := .bool false) rfl (by kernel_rfl) (by kernel_rfl) (by kernel_rfl) (fun _ _ _ h => h) (.inl ⟨by kernel_rfl, fun w' hw => by obtain ⟨h0, h1, h2⟩ := hw; go_simp⟩) hS8 ?_
                      simp only [Act.put, List.setIfInBounds_toArray, List.set_cons_zero, List.set_cons_succ, List.getElem_toArray, List.getElem_cons_succ, List.getElem_cons_zero]
                      refine wpAnyH_take (i := 42) (v := .bool false) rfl (by kernel_rfl) (by kernel_rfl) (by kernel_rfl) (fun _ _ _ h => h) (.inl ⟨by kernel_rfl, fun w' hw => by obtain ⟨h0, h1, h2⟩ := hw; go_simp⟩) hS8 ?_
                      simp only [Act.put, List.setIfInBounds_toArray, List.set_cons_zero, List.set_cons_succ, List.getElem_toArray, List.getElem_cons_succ, List.getElem_cons_zero]
                      refine wpAnyH_done (by kernel_rfl) ?_ _
                      go_wp2_with fail
                      go_roundw
                      case rel => first | exact ⟨i + 1, hlt, by go_num, HLq.out.trans (HL9.out.trans (Later.drewN _ _))⟩ | (repeat apply Exists.intro; refine And.intro ?_ rfl; exact ⟨i + 1, hlt, by go_num, HLq.out.trans (HL9.out.trans (Later.drewN _ _))⟩)
                      case measure => simp [intOf]; omega
                  · obtain rfl : i = n := by omega
                    go_wp2_with fail
                    go_ret
                    exact ⟨rfl, HLg.out.trans HLr.out⟩
  · go_wp2_with fail
    go_ret
    exact ⟨rfl, Later.refl _⟩
end Go.Proofs.Ytdahhcigphhfdaa
