/- The walk of the law FnJumpsOfPairs. -/
import Derived.Test.YthejafejmbpepaaCuL
import Derived.Test.YthejafejmbpepaaCuJ
import Derived.Test.YthejafejmbpepaaJlA
import Derived.Test.YthejafejmbpepaaJpJ
import Derived.Test.YthejafejmbpepaaRgH
namespace Go.Proofs.Ythejafejmbpepaa
open Go.RowKit

theorem wp_region_laterJ {P : Program} {id : Nat} {Q : Exit → Act → World → Prop} {a : Act} {w : World} {l : List Oper} (hm : P.follows .mixedOrders = true) (hB : Region.lexB .any l.toArray = true)
    (h : wpQuiet P l.toArray (fun w' => ∃ p : LaterH w, w' = p.now) (fun a' => ∀ w', (∃ p : LaterH w, w' = p.now) → Q .normal a' w') l a) : (Code.region id l.toArray true).wp P Q a w :=
  wp_region_quiet (C := fun w' => ∃ p : LaterH w, w' = p.now) hm hB ⟨⟨w.drew, Later.drew w⟩, rfl⟩ (by simpa using h)
theorem pair_as {w0 : World} {fn : FuncId} {args : Array Value} {o : Option Jp2} {a b : Int} {t : Bool} (h : Calls Try.prog fn args w0 fun e w' => PairAns w0 o e w') (ha : (o.getD (0, 0)).1 = a) (hb : (o.getD (0, 0)).2 = b) (ht : o.isSome = t) :
    Calls Try.prog fn args w0 fun e w' => e = .returned (.tuple #[.int .i64 a, .int .i64 b, .bool t]) ∧ Later w0 w' :=
  h.mono fun e w' ⟨he, hl⟩ => ⟨by rw [he, ha, hb, ht], hl⟩
theorem vPair_yes (x y k c : Int) (w : World) (h : isjAns x y k c = some true) :
    Calls Try.prog 10 #[.int .i64 x, .int .i64 y, .int .i64 k, .int .i64 c] w fun e w' => e = .returned (.bool true) ∧ Later w w' := by
  have HI := hid (fun w0 => implIsJump_any x y k c w0)
  rw [h] at HI
  clear h
  go_enter Try.func10, Try.ntmps10
  go_wp2_with fail
  refine (HI.out _).mono ?_
  rintro e w1 ⟨rfl, hL⟩
  have HL := hid hL
  clear hL
  go_wp2_with fail
  go_ret
  exact ⟨rfl, HL.out⟩
theorem box_new (w : World) (v : Value) (t : TypeId) : (w.alloc (.cells #[v] t)).cell? ⟨w.heap.size, 0, none⟩ = some v := by simp [go_sem]
set_option maxRecDepth 100000 in
set_option maxHeartbeats 8000000 in
theorem lawJumps_walk (u v : Value) (xs ys : List Int) (w : World) (hx : BytesR w u xs) (hy : BytesR w v ys) :
    Calls Try.prog 3 #[u, v] w fun e w' => e = .returned (.bool true) ∧ Later w w' := by
  have HX := hid hx
  have HY := hid hy
  clear hx hy
  go_enter Try.func3, Try.ntmps3
  go_wp2_with fail
  refine (big_any u v xs ys w HX.out HY.out).mono ?_
  rintro e w0 ⟨⟨b, rfl, _⟩, rfl⟩
  cases b
  · go_wp2_with fail
    refine (drawJumpDown_any u xs w HX.out).mono ?_
    rintro e w1 ⟨x, y, k, c, rfl, hL1⟩
    have HL1 := hid hL1
    clear hL1
    obtain ⟨o, ho⟩ : ∃ o, dnAns x y k c = o := ⟨_, rfl⟩
    have HO := hid ho
    have HI := hid (fun w0 => implJumpDown_any x y k c w0)
    have HS := hid (fun w0 => specJumpDown_any x y k c w0)
    rw [ho] at HI HS
    obtain ⟨a, ha⟩ : ∃ a, (o.getD (0, 0)).1 = a := ⟨_, rfl⟩
    obtain ⟨b, hb⟩ : ∃ b, (o.getD (0, 0)).2 = b := ⟨_, rfl⟩
    obtain ⟨t, ht⟩ : ∃ t, o.isSome = t := ⟨_, rfl⟩
    have HI2 := hid (fun w0 => pair_as (HI.out w0) ha hb ht)
    have HS2 := hid (fun w0 => pair_as (HS.out w0) ha hb ht)
    have HA := hid ha
    have HB := hid hb
    have HT := hid ht
    have haa : (a != a) = false := by simp
    have hbb : (b != b) = false := by simp
    have htt : (t != t) = false := by simp
    clear ho HI HS ha hb ht
    go_upto_if 83 with (first
      | (go_at_call 8; refine (HI2.out _).mono ?_; rintro e w2 ⟨rfl, hL2⟩; have HL2 := hid (HL1.out.trans hL2); clear hL2)
      | (go_at_call 9; refine (HS2.out _).mono ?_; rintro e w3 ⟨rfl, hL3⟩; have HL3 := hid (HL2.out.trans hL3); clear hL3))
    clear haa hbb htt HI2 HS2 HL1 HL2
    go_cut [] (fun wx => Later w wx)
    case first =>
      cases t
      · go_wp2_with fail
        go_meet
        case rel => exact HL3.out
      · obtain ⟨q, hq⟩ : ∃ q, o = some q := Option.isSome_iff_exists.1 HT.out
        subst hq
        obtain ⟨⟨k1, k2⟩, ⟨n1, n2, n3⟩, ⟨m1, m2, m3⟩, his, hfall, hways⟩ := dn_law HO.out
        have ha := HA.out
        have hb := HB.out
        simp only [Option.getD_some] at ha hb
        rw [ha, hb] at his hways
        rw [ha, hb] at hfall
        simp only at n1 n2 n3
        rw [ha] at m2 m3
        rw [hb] at m1 m2
        have HV := hid (fun w0 => vPair_yes a b k c w0 his)
        obtain ⟨s1, hs1⟩ : ∃ s, a + b = s := ⟨_, rfl⟩
        obtain ⟨s2, hs2⟩ : ∃ s, x + y = s := ⟨_, rfl⟩
        rw [hs1, hs2] at hfall
        have hs1w := wrapEq (q := s1) (by omega)
        have hs2w := wrapEq (q := s2) (by omega)
        have hge : ¬ s2 ≤ s1 := by omega
        obtain ⟨P, hP⟩ : ∃ s, k * y = s := ⟨_, rfl⟩
        obtain ⟨P1, P2⟩ : 0 ≤ P ∧ P ≤ 1000 * 1000000 := by rw [← hP]; exact mulBd ⟨by omega, k2⟩ ⟨n1, by omega⟩ (by omega)
        rw [hP] at hways
        obtain ⟨z, hz⟩ : ∃ s, P - x = s := ⟨_, rfl⟩
        rw [hz] at hways
        have hPw := wrapEq (q := P) (by omega)
        have hzw := wrapEq (q := z) (by omega)
        have HU := hid hways
        clear hways his ha hb hfall k1 k2 n1 n2 m1 m2 m3 P1 P2
        rcases HU.out with ⟨e1, e2, hup⟩ | ⟨e1, e2, e3⟩
        · subst e1
          subst e2
          have hlt : ¬ b < b := by omega
          have hya : (a == a) = true := by simp
          have hyn : (a != a) = false := by simp
          have hxn : (x != x) = false := by simp
          have HUP := hid (fun w0 => pair_as (o := some (x, a)) (by have h := implJumpUp_any a b k c w0; rw [hup] at h; exact h) rfl rfl rfl)
          clear hup n3
          go_wp2_with (first
            | (go_at_call 10; refine (HV.out _).mono ?_; rintro e w4 ⟨rfl, hL4⟩; have HL4 := hid (HL3.out.trans hL4); clear hL4)
            | (go_at_call 11; refine (HUP.out _).mono ?_; rintro e w5 ⟨rfl, hL5⟩; have HL5 := hid (HL4.out.trans hL5); clear hL5))
          go_meet
          case rel => exact HL5.out
        · have hya : (a == y) = false := by simp [e1]
          obtain ⟨o2, ho2⟩ : ∃ o2, upAns8 a b k c = o2 := ⟨_, rfl⟩
          have HUP := hid (fun w0 => pair_as (o := o2) (by have h := implJumpUp_any a b k c w0; rw [ho2] at h; exact h) rfl rfl rfl)
          clear ho2 e1 e2 n3
          go_wp2_with (first
            | (go_at_call 10; refine (HV.out _).mono ?_; rintro e w4 ⟨rfl, hL4⟩; have HL4 := hid (HL3.out.trans hL4); clear hL4)
            | (go_at_call 11; refine (HUP.out _).mono ?_; rintro e w5 ⟨rfl, hL5⟩; have HL5 := hid (HL4.out.trans hL5); clear hL5))
          go_meet
          case rel => exact HL5.out
    case rest =>
      have HLc := hid hcut
      clear hcut HO HA HB HT HL3
      go_wp2_with fail
      refine (drawJumpUp_any v ys wc (HY.out.later HLc.out)).mono ?_
      rintro e wd ⟨z, r, m, d, rfl, hLd⟩
      have HLd := hid (HLc.out.trans hLd)
      clear hLd
      obtain ⟨o2, ho2⟩ : ∃ o, upAns8 z r m d = o := ⟨_, rfl⟩
      have HO2 := hid ho2
      have HI := hid (fun w0 => implJumpUp_any z r m d w0)
      have HS := hid (fun w0 => specJumpUp_any z r m d w0)
      rw [ho2] at HI HS
      obtain ⟨p, hp⟩ : ∃ a, (o2.getD (0, 0)).1 = a := ⟨_, rfl⟩
      obtain ⟨q, hq⟩ : ∃ b, (o2.getD (0, 0)).2 = b := ⟨_, rfl⟩
      obtain ⟨t2, ht2⟩ : ∃ t, o2.isSome = t := ⟨_, rfl⟩
      have HI2 := hid (fun w0 => pair_as (HI.out w0) hp hq ht2)
      have HS2 := hid (fun w0 => pair_as (HS.out w0) hp hq ht2)
      have HA := hid hp
      have HB := hid hq
      have HT := hid ht2
      have hpp : (p != p) = false := by simp
      have hqq : (q != q) = false := by simp
      have htt : (t2 != t2) = false := by simp
      clear ho2 HI HS hp hq ht2
      go_upto_if 175 with (first
        | (go_at_call 11; refine (HI2.out _).mono ?_; rintro e we ⟨rfl, hLe⟩; have HLe := hid (HLd.out.trans hLe); clear hLe)
        | (go_at_call 13; refine (HS2.out _).mono ?_; rintro e wf ⟨rfl, hLf⟩; have HLf := hid (HLe.out.trans hLf); clear hLf))
      clear hpp hqq htt HI2 HS2 HLd HLe
      go_cut [] (fun wx => Later w wx)
      case first =>
        cases t2
        · go_wp2_with fail
          go_meet
          case rel => exact HLf.out
        · obtain ⟨q', hq'⟩ : ∃ q, o2 = some q := Option.isSome_iff_exists.1 HT.out
          subst hq'
          obtain ⟨⟨k1, k2⟩, ⟨n1, n2, n3⟩, ⟨g1, g2, g3⟩, his, hsnd, hfst, hback⟩ := up_law HO2.out
          have ha := HA.out
          have hb := HB.out
          simp only [Option.getD_some] at ha hb
          simp only at n1 n2 n3
          rw [ha, hb] at his hback
          rw [ha] at hfst g2 g3
          rw [hb] at hsnd g1 g2
          subst hsnd
          have HV := hid (fun w0 => vPair_yes p q m d w0 his)
          have hpz : ¬ p < q := by omega
          have hqq : (q != q) = false := by simp
          have HJM := hid (show jmM m = some (jmL m) from if_pos ⟨k1, k2⟩)
          have HJ := hid (fun w0 => implJumpMatrix_any m w0)
          rw [HJM.out] at HJ
          have HAP := hid (show applyAns (jmL m) [q, r] = some [p, q] by rw [hfst]; exact apply_jm ⟨k1, k2⟩ ⟨n1, n2, n3⟩ (by rw [← hfst]; exact ⟨g1, g2, g3⟩))
          have HBK := hid hback
          have HN := hid (show r ≤ q from n2)
          have HN2 := hid g2
          clear his hback ha hb hfst k1 k2 n1 n2 n3 g1 g2 g3 HA HB HT HO2 HJM
          go_wp2_with (first
            | (go_at_call 10; refine (HV.out _).mono ?_; rintro e wg ⟨rfl, hLg⟩; have HLg := hid (HLf.out.trans hLg); clear hLg)
            | (go_at_call 14; refine (HJ.out _).mono ?_; rintro e wh ⟨vh, rfl, hoh, hLh⟩; obtain ⟨ah, ch, rfl, _⟩ := hoh.shape; have HOH := hid hoh; have HLh := hid (HLg.out.trans hLh); clear hLh hoh))
          have hOw := jm_pair (wh.alloc (.cells #[.slice ah (jmL m).length ch] 31)) q r
          rw [show (wh.alloc (.cells #[.slice ah (jmL m).length ch] 31)).heap.size = wh.heap.size + 1 by simp] at hOw
          have hR := (HOH.out.rows.later (Later.alloc wh (.cells #[.slice ah (jmL m).length ch] 31))).later (Later.alloc _ (.cells #[.int .i64 q, .int .i64 r] 3))
          have HLi0 := hid (HLh.out.trans ((Later.alloc wh (.cells #[.slice ah (jmL m).length ch] 31)).trans (Later.alloc _ (.cells #[.int .i64 q, .int .i64 r] 3))))
          have HM := hid (implApplyMatrix_any _ _ (jmL m) [q, r] _ hR hOw.ints)
          rw [HAP.out] at HM
          clear hOw hR
          generalize (wh.alloc (.cells #[.slice ah (jmL m).length ch] 31)).alloc (.cells #[.int .i64 q, .int .i64 r] 3) = wi0 at HLi0 HM ⊢
          refine HM.out.mono ?_
          rintro e wi ⟨vi, rfl, hoi, hLi⟩
          have HLi := hid (HLi0.out.trans hLi)
          have HVS := hid (vSame_same _ _ [p, q] (wi.alloc (.cells #[.int .i64 p, .int .i64 q] 3)) (hoi.ints.later (Later.alloc wi _)) (jm_pair wi p q).ints)
          have HLi2 := hid (HLi.out.trans (Later.alloc wi (.cells #[.int .i64 p, .int .i64 q] 3)))
          clear hoi hLi HM HAP HJ HV
          go_upto_if 218 with (go_at_call 16; refine HVS.out.mono ?_; rintro e w5 ⟨rfl, n5, rfl⟩)
          have HL5 := hid (HLi2.out.trans (Later.drewN _ n5))
          by_cases hrp : r < p
          · have HD := hid (fun w0 => pair_as (o := some (q, r)) (by have h := implJumpDown_any p q m d w0; rw [HBK.out hrp] at h; exact h) rfl rfl rfl)
            have hrr : (r != r) = false := by simp
            generalize (wi.alloc (.cells #[.int .i64 p, .int .i64 q] 3)).drewN n5 = w5 at HL5 ⊢
            clear HBK HVS
            go_wp2_with (go_at_call 8; refine (HD.out _).mono ?_; rintro e w6 ⟨rfl, hL6⟩; have HL6 := hid (HL5.out.trans hL6); clear hL6)
            go_meet
            case rel => exact HL6.out
          · go_wp2_with fail
            go_meet
            case rel => exact HL5.out
      case rest =>
        have HLc2 := hid hcut
        clear hcut HA HB HT HO2 HLf
        go_wp2_with fail
        refine (drawJumpMatrix_any v ys wc (HY.out.later HLc2.out)).mono ?_
        rintro e wj ⟨i, rfl, hLj⟩
        have HLj := hid (HLc2.out.trans hLj)
        clear hLj
        have HJ := hid (fun w0 => implJumpMatrix_any i w0)
        have HK := hid (fun w0 => specJumpMatrix_any i w0)
        by_cases hi : 1 ≤ i ∧ i ≤ 1000
        · have hJM : jmM i = some (jmL i) := if_pos hi
          rw [hJM] at HJ HK
          have HDT := hid (det_jm hi)
          clear hi hJM
          go_upto_region 36 with (first
            | (go_at_call 14; refine (HJ.out _).mono ?_; rintro e wk ⟨vk, rfl, hok, hLk⟩; obtain ⟨ak, ck, rfl, _⟩ := hok.shape; have HOK := hid hok; have HLk := hid (HLj.out.trans hLk); clear hLk hok)
            | (go_at_call 18; refine (HK.out _).mono ?_; rintro e wl ⟨vl, rfl, hol, hLl⟩; obtain ⟨al, cl, rfl, _⟩ := hol.shape; have HOL := hid hol; have HLl := hid hLl; clear hLl hol))
          have c36 := (Later.alloc wl (.cells #[.slice al (jmL i).length cl] 31)).cell (HLl.out.cell (box_new wk (.slice ak (jmL i).length ck) 31))
          have c38 := box_new wl (.slice al (jmL i).length cl) 31
          have HRk := hid ((HOK.out.rows.later ((Later.alloc wk (.cells #[.slice ak (jmL i).length ck] 31)).trans HLl.out)).later (Later.alloc wl (.cells #[.slice al (jmL i).length cl] 31)))
          have HRl := hid (HOL.out.rows.later (Later.alloc wl (.cells #[.slice al (jmL i).length cl] 31)))
          have HLW := hid ((HLk.out.trans ((Later.alloc wk (.cells #[.slice ak (jmL i).length ck] 31)).trans HLl.out)).trans (Later.alloc wl (.cells #[.slice al (jmL i).length cl] 31)))
          generalize wl.alloc (.cells #[.slice al (jmL i).length cl] 31) = W at c36 c38 HRk HRl HLW ⊢
          have HVS := hid (vSameLists_same _ _ _ W HRk.out HRl.out)
          clear HOK HOL HLk HLl HJ HK HLj
          go_wp2_with (go_at_call 19; refine HVS.out.mono ?_; rintro e w5 ⟨rfl, n5, rfl⟩)
          have HM := hid (implDeterminantOf_any _ (jmL i) _ (HRk.out.drewN n5))
          rw [HDT.out] at HM
          have HL5 := hid (HLW.out.trans (Later.drewN W n5))
          refine HM.out.mono ?_
          rintro e w6 ⟨rfl, hL6⟩
          have HL6 := hid (HL5.out.trans hL6)
          clear hL6
          go_wp2_with fail
          go_ret
          exact ⟨rfl, HL6.out⟩
        · have hJM : jmM i = none := if_neg hi
          rw [hJM] at HJ HK
          clear hi hJM
          go_upto_region 36 with (first
            | (go_at_call 14; refine (HJ.out _).mono ?_; rintro e wk ⟨vk, rfl, hok, hLk⟩; obtain ⟨ak, ck, rfl, _⟩ := hok.shape; have HOK := hid hok; have HLk := hid (HLj.out.trans hLk); clear hLk hok)
            | (go_at_call 18; refine (HK.out _).mono ?_; rintro e wl ⟨vl, rfl, hol, hLl⟩; obtain ⟨al, cl, rfl, _⟩ := hol.shape; have HOL := hid hol; have HLl := hid hLl; clear hLl hol))
          have c36 := (Later.alloc wl (.cells #[.slice al 0 cl] 31)).cell (HLl.out.cell (box_new wk (.slice ak 0 ck) 31))
          have c38 := box_new wl (.slice al 0 cl) 31
          have HRk := hid ((HOK.out.rows.later ((Later.alloc wk (.cells #[.slice ak 0 ck] 31)).trans HLl.out)).later (Later.alloc wl (.cells #[.slice al 0 cl] 31)))
          have HRl := hid (HOL.out.rows.later (Later.alloc wl (.cells #[.slice al 0 cl] 31)))
          have HLW := hid ((HLk.out.trans ((Later.alloc wk (.cells #[.slice ak 0 ck] 31)).trans HLl.out)).trans (Later.alloc wl (.cells #[.slice al 0 cl] 31)))
          generalize wl.alloc (.cells #[.slice al 0 cl] 31) = W at c36 c38 HRk HRl HLW ⊢
          have HVS := hid (vSameLists_same _ _ _ W HRk.out HRl.out)
          clear HOK HOL HLk HLl HJ HK HLj
          go_wp2_with (go_at_call 19; refine HVS.out.mono ?_; rintro e w5 ⟨rfl, n5, rfl⟩)
          go_ret
          exact ⟨rfl, HLW.out.trans (Later.drewN W n5)⟩
  · go_wp2_with fail
    go_ret
    exact ⟨rfl, Later.refl _⟩
end Go.Proofs.Ythejafejmbpepaa
