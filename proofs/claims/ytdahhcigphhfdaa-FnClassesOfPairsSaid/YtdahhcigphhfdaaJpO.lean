/- The least pair of a pair: the program. -/
import Derived.Test.YtdahhcigphhfdaaJpJ
import Derived.Test.YtdahhcigphhfdaaJuO
namespace Go.Proofs.Ytdahhcigphhfdaa
open Go.RowKit

/-- The sum of the two numbers in a block. -/
def jpAt (B : Nat) (w : World) : Nat := match w.cell? ⟨B, 0, none⟩, w.cell? ⟨B, 1, none⟩ with
  | some (.int _ a), some (.int _ b) => (a + b).toNat
  | _, _ => 0
theorem JBox.at {w : World} {B : Nat} {a b : Int} (h : JBox w B a b) : jpAt B w = (a + b).toNat := by unfold jpAt; rw [h.c0, h.c1]
theorem later_drop {w0 w : World} {B : Nat} (h : Later w0 w) (hB : w0.heap.size ≤ B) (p q : Value) : Later w0 ((w.setCell ⟨B, 0, none⟩ p).setCell ⟨B, 1, none⟩ q) := setJ_later h hB p q
set_option maxRecDepth 20000 in
set_option maxHeartbeats 4000000 in
theorem implLeastPair_any (x y k c : Int) (w : World) :
    Calls Try.prog 22 #[.int .i64 x, .int .i64 y, .int .i64 k, .int .i64 c] w fun e w' => PairAns w (leastAns x y k c) e w' := by
  have HP := hid (fun w0 => pairOf_any (prodEqS k c) x y w0)
  have HL := hid (Later.alloc w (.cells #[.int .i64 k, .int .i64 c] 74))
  have HB := hid (JBox.new w k c 74)
  cases hB : juB x y k c
  · have HA := hid (show leastAns x y k c = none from if_neg (by rw [hB]; simp))
    rw [pairOk_no hB] at HP
    rw [HA.out]
    clear hB HA
    go_enter Try.func22, Try.ntmps22
    go_wp2_with fail
    generalize w.alloc (.cells #[.int .i64 k, .int .i64 c] 74) = w1 at HL HB ⊢
    refine (HP.out _).mono ?_
    rintro e w2 ⟨rfl, hL2⟩
    have HL3 := hid (HL.out.trans (hL2.trans (Later.alloc w2 (.cells #[.int .i64 0, .int .i64 0] 84))))
    clear hL2
    unfold jpA
    simp only [Option.getD_none, Option.isSome_none]
    go_wp2_with fail
    go_ret3
    exact ⟨rfl, HL3.out⟩
  · have HA := hid (show leastAns x y k c = some (leastOf k (x, y)) from if_pos hB)
    have HN := hid (juB_N hB)
    have HD := hid (fun (p : Jp2) (w0 : World) (hp : jpN p) => down_any (prodEq k c (juB_W hB)) p.1 p.2 w0 hp)
    have HS := hid (LeftJ.start k (x, y))
    obtain ⟨R, hR⟩ : ∃ R, leastOf k (x, y) = R := ⟨_, rfl⟩
    rw [hR] at HA HS
    rw [pairOk_yes hB] at HP
    rw [HA.out]
    clear hB HA hR
    go_enter Try.func22, Try.ntmps22
    go_wp2_with fail
    generalize w.alloc (.cells #[.int .i64 k, .int .i64 c] 74) = w1 at HL HB ⊢
    refine (HP.out _).mono ?_
    rintro e w2 ⟨rfl, hL2⟩
    have hL3 := hL2.trans (Later.alloc w2 (.cells #[.int .i64 x, .int .i64 y] 84))
    have HB3 := hid (HB.out.later hL3)
    have HL3 := hid (HL.out.trans hL3)
    have HE3 := hid (JBox.new w2 x y 84)
    have HSZ := hid (show w.heap.size < w2.heap.size from Nat.lt_of_lt_of_le (HB.out.lt) hL2.size)
    clear hL2 hL3
    unfold jpA
    simp only [Option.getD_some, Option.isSome_some]
    go_upto_region 5 with fail
    generalize w2.alloc (.cells #[.int .i64 x, .int .i64 y] 84) = w3 at HL3 HB3 HE3 ⊢
    obtain ⟨B, hBB⟩ : ∃ B, w2.heap.size = B := ⟨_, rfl⟩
    rw [hBB] at HE3 HSZ ⊢
    obtain ⟨b0, b1, _, _⟩ := HB3.out
    obtain ⟨c0, c1, _, _⟩ := HE3.out
    clear hBB
    go_wp2_with fail
    refine (HD.out (x, y) _ HN.out).mono ?_
    rintro e w4 ⟨rfl, hL4⟩
    have HB4 := hid (HB3.out.later hL4)
    have HE4 := hid (HE3.out.later hL4)
    have HL4 := hid (HL3.out.trans hL4)
    clear hL4 b0 b1 c0 c1
    obtain ⟨o, ho⟩ : ∃ o, dnJ k (x, y) = o := ⟨_, rfl⟩
    rw [ho]
    have HO := hid ho
    obtain ⟨a, ha⟩ : ∃ a, (o.getD (0, 0)).1 = a := ⟨_, rfl⟩
    obtain ⟨b, hb⟩ : ∃ b, (o.getD (0, 0)).2 = b := ⟨_, rfl⟩
    obtain ⟨q, hq⟩ : ∃ q, o.isSome = q := ⟨_, rfl⟩
    unfold jpA
    rw [ha, hb, hq]
    go_upto_region 6 with fail
    have HB5 := hid (HB4.out.later (Later.alloc w4 (.cells #[.int .i64 a, .int .i64 b] 84)))
    have HE5 := hid (HE4.out.later (Later.alloc w4 (.cells #[.int .i64 a, .int .i64 b] 84)))
    have HD5 := hid (JBox.new w4 a b 84)
    have HL5 := hid (HL4.out.trans (Later.alloc w4 (.cells #[.int .i64 a, .int .i64 b] 84)))
    have HBD := hid (show B < w4.heap.size from HE4.out.lt)
    go_loopw [14, 15] (fun s14 s15 wr => ∃ (p : Jp2) (o : Option Jp2) (D : Nat), jpN p ∧ dnJ k p = o ∧ s14 = .pointer (some ⟨D, 0, none⟩) ∧ s15 = .bool o.isSome ∧ JBox wr w.heap.size k c ∧ JBox wr B p.1 p.2 ∧ JBox wr D (o.getD (0, 0)).1 (o.getD (0, 0)).2 ∧ B < D ∧ LeftJ k R p ∧ Later w wr)
      (fun _ _ wr => jpAt B wr)
    case atStart => exact ⟨(x, y), o, _, HN.out, ho, rfl, by rw [hq], HB5.out, HE5.out, by rw [ha, hb]; exact HD5.out, HBD.out, HS.out, HL5.out⟩
    case round =>
      clear HB4 HE4 HL4 HB5 HE5 HD5 HL5 HBD HB3 HE3 HL3 ha hb hq ho HS HN HO HL HB
      obtain ⟨p, o, D, hN, ho, rfl, rfl, hA, hBx, hDx, hBD, hS, hL⟩ := hrel
      have HA := hid hA
      have HBX := hid hBx
      have HDX := hid hDx
      have HL := hid hL
      have HNr := hid hN
      have HSr := hid hS
      have HBD := hid hBD
      have HO := hid ho
      clear hA hBx hDx hL hN hS hBD ho
      cases o with
      | none =>
        have HE := hid (HSr.out.done HO.out)
        obtain ⟨pa, pb⟩ := p
        obtain ⟨c0, c1, _, _⟩ := HBX.out
        simp only [Option.isSome_none]
        go_wp2_with fail
        go_quiet (fail)
        go_wp2_with fail
        go_ret3
        exact ⟨by rw [HE.out]; rfl, HL.out.trans (Later.drewN _ _)⟩
      | some q =>
        obtain ⟨qa, qb⟩ := q
        have HE := hid (HSr.out.step HNr.out HO.out)
        have HG2 := hid (dnJ_good HNr.out HO.out)
        have HMS := hid HBX.out.at
        obtain ⟨c0, c1, cf0, cf1⟩ := HBX.out
        obtain ⟨d0, d1, df0, df1⟩ := HDX.out
        have HAS := hid (show JBox ((wr.setCell ⟨B, 0, none⟩ (.int .i64 qa)).setCell ⟨B, 1, none⟩ (.int .i64 qb)) w.heap.size k c from HA.out.keep (setJ_far _ _ _ _ _ (by have := HSZ.out; omega)))
        have HBS := hid (HBX.out.set qa qb)
        have HDS := hid (show JBox ((wr.setCell ⟨B, 0, none⟩ (.int .i64 qa)).setCell ⟨B, 1, none⟩ (.int .i64 qb)) D qa qb from HDX.out.keep (setJ_far _ _ _ _ _ (by have := HBD.out; omega)))
        have HLS := hid (setJ_later HL.out (Nat.le_of_lt HSZ.out) (.int .i64 qa) (.int .i64 qb))
        simp only [Option.isSome_some]
        go_upto_region 9 with fail
        generalize (wr.setCell ⟨B, 0, none⟩ (.int .i64 qa)).setCell ⟨B, 1, none⟩ (.int .i64 qb) = w5 at HAS HBS HDS HLS ⊢
        clear c0 c1 cf0 cf1 d0 d1 df0 df1
        obtain ⟨d0, d1, df0, df1⟩ := HDS.out
        have hAl := Later.alloc w5 (.cells #[.int .i64 qa, .int .i64 qb] 84)
        have HA6 := hid (HAS.out.later hAl)
        have HB6 := hid (HBS.out.later hAl)
        have HD6 := hid (JBox.new w5 qa qb 84)
        have HL6 := hid (HLS.out.trans hAl)
        have HBD6 := hid (show B < w5.heap.size from HBS.out.lt)
        clear hAl
        go_upto_region 7 with fail
        generalize w5.alloc (.cells #[.int .i64 qa, .int .i64 qb] 84) = w6 at HA6 HB6 HD6 HL6 ⊢
        obtain ⟨D2, hD2⟩ : ∃ D2, w5.heap.size = D2 := ⟨_, rfl⟩
        rw [hD2] at HD6 HBD6 ⊢
        clear d0 d1 df0 df1 hD2
        obtain ⟨a0, a1, _, _⟩ := HA6.out
        obtain ⟨b0, b1, _, _⟩ := HB6.out
        go_wp2_with fail
        refine (HD.out (qa, qb) _ HG2.out.1).mono ?_
        rintro e w7 ⟨rfl, hL7⟩
        have HA7 := hid (HA6.out.later hL7)
        have HB7 := hid (HB6.out.later hL7)
        have HD7 := hid (HD6.out.later hL7)
        have HL7 := hid (HL6.out.trans hL7)
        clear hL7 a0 a1 b0 b1
        obtain ⟨o2, ho2⟩ : ∃ o2, dnJ k (qa, qb) = o2 := ⟨_, rfl⟩
        rw [ho2]
        have HO2 := hid ho2
        obtain ⟨a, ha⟩ : ∃ a, (o2.getD (0, 0)).1 = a := ⟨_, rfl⟩
        obtain ⟨b, hb⟩ : ∃ b, (o2.getD (0, 0)).2 = b := ⟨_, rfl⟩
        obtain ⟨s, hs⟩ : ∃ s, o2.isSome = s := ⟨_, rfl⟩
        have HAB := hid (And.intro ha (And.intro hb hs))
        unfold jpA
        rw [ha, hb, hs]
        clear ho2 ha hb hs
        obtain ⟨d0, d1, df0, df1⟩ := HD7.out
        go_wp2_with fail
        have HA8 := hid (show JBox ((w7.setCell ⟨D2, 0, none⟩ (.int .i64 a)).setCell ⟨D2, 1, none⟩ (.int .i64 b)) w.heap.size k c from HA7.out.keep (setJ_far _ _ _ _ _ (by have := HSZ.out; have := HBD6.out; omega)))
        have HB8 := hid (show JBox ((w7.setCell ⟨D2, 0, none⟩ (.int .i64 a)).setCell ⟨D2, 1, none⟩ (.int .i64 b)) B qa qb from HB7.out.keep (setJ_far _ _ _ _ _ (by have := HBD6.out; omega)))
        have HD8 := hid (HD7.out.set a b)
        have HL8 := hid (setJ_later HL7.out (show w.heap.size ≤ D2 by have := HSZ.out; have := HBD6.out; omega) (.int .i64 a) (.int .i64 b))
        go_roundw
        case rel => exact ⟨(qa, qb), o2, D2, HG2.out.1, HO2.out, rfl, by rw [HAB.out.2.2], HA8.out, HB8.out, by rw [HAB.out.1, HAB.out.2.1]; exact HD8.out, HBD6.out, HE.out, HL8.out⟩
        case measure =>
          rw [HB8.out.at, HMS.out]
          obtain ⟨⟨g1, g2, g3⟩, g4⟩ := HG2.out
          obtain ⟨n1, n2, n3⟩ := HNr.out
          simp only at g1 g2 g3 g4 n1 n2 n3
          omega
end Go.Proofs.Ytdahhcigphhfdaa
