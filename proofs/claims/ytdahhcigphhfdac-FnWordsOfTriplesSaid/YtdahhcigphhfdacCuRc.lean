/- What the model draws for words over three letters. -/
import Derived.Test.YtdahhcigphhfdacCuRab
import Derived.Test.YtdahhcigphhfdacBasB
namespace Go.Proofs.Ytdahhcigphhfdac
open Go.RowKit

set_option maxRecDepth 20000 in
set_option maxHeartbeats 8000000 in
theorem curWord3_any (base w : World) (B : Nat) (v : Value) (bs : List Int) (most : Int) (hm : 0 ≤ most ∧ most ≤ 20) (h : Cur base w B v bs 0) :
    Calls Try.prog 98 #[.pointer (some ⟨B, 0, none⟩), .int .i64 most] w fun e w' => CurListG base B v bs 100 e w' := by
  obtain ⟨ii, hii, ii0, ii1, ii2⟩ := info_parts Try.infoInt
  have H := hid h
  have hmw := wrapQ (q := most + 1) (by omega)
  clear h
  go_enter Try.func98, Try.ntmps98
  go_wp2_with fail
  refine (curPick_any base w B v bs 0 (most + 1) (by omega) (by omega) H.out).mono ?_
  rintro e w1 ⟨n, rfl, n0, n1, hC, hG⟩
  have HC1 := hid hC
  have n2 : n ≤ 20 := by split at n1 <;> omega
  have HB1 := hid hC.ltG
  clear hC hG n1 hmw
  go_wp2_with fail
  go_loopw [5, 6] (fun o k wr => ∃ (L : List Int) (j : Nat), k = .int .i64 j ∧ OwnInts (B + 1) wr.heap.size wr o L ∧ L.length + j ≤ 20 ∧ Cur base wr B v bs (10 + 2 * L.length)) (fun _ k _ => (intOf k).toNat)
  case atStart => exact ⟨[], n.toNat, by rw [Int.toNat_of_nonneg n0], ownInts_nilG _ _ _, by simp; omega, HC1.out.mono (by simp)⟩
  case round =>
    obtain ⟨L, j, rfl, hO, hl, hC⟩ := hrel
    obtain ⟨p1, cc, rfl, hcap⟩ := hO.shape
    have HO := hid hO
    have HC := hid hC
    have HBr := hid hC.ltG
    clear hO hC
    cases j with
    | succ j =>
      have hj0 : (0 : Int) < ((j + 1 : Nat) : Int) := by omega
      go_wp2_with fail
      refine (curPick_any base wr B v bs _ 3 (by omega) (by omega) HC.out).mono ?_
      rintro e w4 ⟨x, rfl, x0, x1, hC, hG⟩
      have HC4 := hid hC
      have HO4 := hid (show OwnInts (B + 1) w4.heap.size w4 (.slice p1 L.length cc) L from (HO.out.keep fun b h1 h2 => hG.block b h2 (fun e => by injection e with e; omega)).wide (Nat.le_refl _) hG.size)
      have HS4 := hid (show B + 1 ≤ w4.heap.size from hC.ltG)
      have HLN := hid (show L.length ≤ 1000000 by omega)
      clear hC hG x1
      go_wp2_with (at_builtin; refine wpList_pushG (by rfl) _ _ (by rfl) (B + 1) w4 _ (.slice p1 L.length cc) L x (by rfl) HS4.out HO4.out HLN.out (by rfl) rfl ?_)
      intro g c w5 hO5 hG5 _
      have HC5 := hid (HC4.out.besideG (Nat.lt_succ_self B) HO4.out.ownG hG5)
      have HO5 := hid hO5
      clear hO5 hG5
      go_wp2_with fail
      go_roundw
      case rel => exact ⟨L ++ [x], j, by go_num, by simpa using HO5.out, by simp; omega, by have h := HC5.out; exact h.mono (by simp; omega)⟩
      case measure => simp [intOf]
    | zero =>
      have HC0 := hid (HC.out.mono (show 10 + 2 * L.length ≤ 60 by omega))
      have hL20 : L.length ≤ 20 := by omega
      clear HC hl
      go_wp2_with fail
      refine (curPick_any base wr B v bs _ 14 (by omega) (by omega) HC0.out).mono ?_
      rintro e w2 ⟨c, rfl, c0, c1, hC, hG⟩
      have HC2 := hid hC
      have HO2 := hid (HO.out.keepG (Nat.lt_succ_self B) hG)
      have HB2 := hid hC.ltG
      clear hC hG c1
      by_cases e0 : c = 0
      · subst e0
        go_wp2_with fail
        refine (curLitG_any base w2 B v bs _ [-1, 3] (by omega) (by simp) (by simp) HC2.out).mono ?_
        rintro e w3 ⟨x, rfl, _, hC, hG⟩
        have HC3 := hid hC
        have HO3 := hid (HO2.out.keepG (Nat.lt_succ_self B) hG)
        have HS3 := hid (show B + 1 ≤ w3.heap.size from hC.ltG)
        have HLN := hid (show L.length ≤ 1000000 by omega)
        clear hC hG
        go_wp2_with (at_builtin; refine wpList_pushG (by rfl) _ _ (by rfl) (B + 1) w3 _ (.slice p1 L.length cc) L x (by rfl) HS3.out HO3.out HLN.out (by rfl) rfl ?_)
        intro g c w5 hO5 hG5 _
        have HC5 := hid (HC3.out.besideG (Nat.lt_succ_self B) HO3.out.ownG hG5)
        have HO5 := hid hO5
        clear hO5 hG5
        go_wp2_with fail
        go_ret
        exact ⟨_, L ++ [x], rfl, by simpa using HO5.out, by simp; omega, HC5.out.mono (by omega)⟩
      · have e0' : (c == 0) = false := by simp [e0]
        by_cases e1 : c = 1
        · subst e1
          go_wp2_with fail
          refine (curPick_any base w2 B v bs _ 2 (by omega) (by omega) HC2.out).mono ?_
          rintro e w3 ⟨x, rfl, x0, x1, hC, _⟩
          have x2 : x ≤ 1 := by simpa using x1
          have HC3 := hid hC
          have HB3 := hid (show B + 1 ≤ w3.heap.size from hC.ltG)
          clear hC x1
          obtain ⟨k, hk⟩ : ∃ k : Nat, 40 + x = (k : Int) := ⟨(40 + x).toNat, by omega⟩
          have hkw := wrapQ (q := (k : Int)) (by omega)
          have hk1 : k ≤ 41 := by omega
          go_wp2_with (first | (at_make; refine wpList_make_full _ rfl _ _ 26 rfl w3.heap.size 3 ii (.int .i64 0) 1 Try.underlying26 hii ii0 ii1 _ _ _ _ k rfl rfl rfl rfl ?b2 ?b3 ?b4 ?_))
          case b2 => rw [ii2]; omega
          case b3 => unfold maxLen; omega
          case b4 => exact Nat.le_refl _
          intro w5 hown hgrow
          have HL5 := hid (show Later w3 w5 from (Below.refl _ _).grown hgrow (Nat.le_refl _) (by simp))
          have HM := hid (show OwnInts w3.heap.size w5.heap.size w5 (.slice (some ⟨w3.heap.size, 0, none⟩) k k) (List.replicate k 0) from OwnInts.ofH hown (by rw [toList_madeCells_one]; simp))
          clear hown hgrow
          go_wp2_with fail
          go_ret
          exact ⟨_, List.replicate k 0, rfl, HM.out.wide HB3.out (Nat.le_refl _), by simp; omega, (HC3.out.keep HL5.out).mono (by omega)⟩
        · have e1' : (c == 1) = false := by simp [e1]
          by_cases e2 : c = 2
          · subst e2
            go_wp2_with fail
            refine (curPick_any base w2 B v bs _ 2 (by omega) (by omega) HC2.out).mono ?_
            rintro e w3 ⟨x, rfl, x0, x1, hC, _⟩
            have x2 : x ≤ 1 := by simpa using x1
            have HC3 := hid hC
            have HB3 := hid (show B + 1 ≤ w3.heap.size from hC.ltG)
            clear hC x1
            obtain ⟨k, hk⟩ : ∃ k : Nat, 18 + x = (k : Int) := ⟨(18 + x).toNat, by omega⟩
            have hkw := wrapQ (q := (k : Int)) (by omega)
            have hk1 : k ≤ 41 := by omega
            go_wp2_with (first | (at_make; refine wpList_make_full _ rfl _ _ 26 rfl w3.heap.size 3 ii (.int .i64 0) 1 Try.underlying26 hii ii0 ii1 _ _ _ _ k rfl rfl rfl rfl ?b2 ?b3 ?b4 ?_))
            case b2 => rw [ii2]; omega
            case b3 => unfold maxLen; omega
            case b4 => exact Nat.le_refl _
            intro w5 hown hgrow
            have HL5 := hid (show Later w3 w5 from (Below.refl _ _).grown hgrow (Nat.le_refl _) (by simp))
            have HM := hid (show OwnInts w3.heap.size w5.heap.size w5 (.slice (some ⟨w3.heap.size, 0, none⟩) k k) (List.replicate k 0) from OwnInts.ofH hown (by rw [toList_madeCells_one]; simp))
            clear hown hgrow
            go_wp2_with fail
            go_ret
            exact ⟨_, List.replicate k 0, rfl, HM.out.wide HB3.out (Nat.le_refl _), by simp; omega, (HC3.out.keep HL5.out).mono (by omega)⟩
          · have e2' : (c == 2) = false := by simp [e2]
            go_wp2_with fail
            go_ret
            exact ⟨_, L, rfl, HO2.out, by omega, HC2.out.mono (by omega)⟩
set_option maxRecDepth 20000 in
set_option maxHeartbeats 4000000 in
theorem drawRightByBerg_any (v : Value) (bs : List Int) (w : World) (h : BytesR w v bs) :
    Calls Try.prog 45 #[v] w fun e w' => OneListG w e w' := by
  have HC := hid (fun ty => Cur.newG w v bs h ty)
  obtain ⟨a, cap, rfl, _⟩ := id h
  clear h
  go_enter Try.func45, Try.ntmps45
  go_wp2_with fail
  refine (curWord3_any w _ w.heap.size _ bs 9 (by omega) (HC.out _)).mono ?_
  rintro e w1 ⟨u, zs, rfl, ho, hl, hC⟩
  have HO := hid (show OwnInts w.heap.size w1.heap.size w1 u zs from ho.wide (by omega) (Nat.le_refl _))
  have HL := hid hC.later
  clear ho hC
  go_wp2_with fail
  go_ret
  exact ⟨u, zs, rfl, HO.out, hl, HL.out⟩
set_option maxRecDepth 20000 in
set_option maxHeartbeats 4000000 in
theorem drawRankOfWord_any (v : Value) (bs : List Int) (w : World) (h : BytesR w v bs) :
    Calls Try.prog 54 #[v] w fun e w' => OneListG w e w' := by
  have HC := hid (fun ty => Cur.newG w v bs h ty)
  obtain ⟨a, cap, rfl, _⟩ := id h
  clear h
  go_enter Try.func54, Try.ntmps54
  go_wp2_with fail
  refine (curWord3_any w _ w.heap.size _ bs 12 (by omega) (HC.out _)).mono ?_
  rintro e w1 ⟨u, zs, rfl, ho, hl, hC⟩
  have HO := hid (show OwnInts w.heap.size w1.heap.size w1 u zs from ho.wide (by omega) (Nat.le_refl _))
  have HL := hid hC.later
  clear ho hC
  go_wp2_with fail
  go_ret
  exact ⟨u, zs, rfl, HO.out, hl, HL.out⟩
end Go.Proofs.Ytdahhcigphhfdac
