/- All Christoffel words up to a length, in both. -/
import Derived.Test.YtmmapfdmdliifabWdE
import Derived.Test.YtmmapfdmdliifabStrs
import Derived.Deep.AppendLies
namespace Go.Proofs.Ytmmapfdmdliifab
open Go.RowKit

theorem Try.infoStr : (Try.prog.info? 9).map (fun i => (i.zero, i.size, i.bytes)) = some (some (.string ⟨#[]⟩), 1, 16) := by kernel_rfl
/-- The Christoffel words of len letters with fewer than b letters b, by their number. -/
def lenTo (len : Nat) : Nat → List (List UInt8)
  | 0 => []
  | b + 1 => lenTo len b ++ (if gcdW ((len - b : Nat) : Int) (b : Int) = 1 then [chW (len - b) b] else [])
def allTo : Nat → List (List UInt8)
  | 0 => []
  | m + 1 => allTo m ++ lenTo (m + 1) (m + 2)
def uptoAns (n : Int) : Option (List (List UInt8)) := if 1 ≤ n ∧ n ≤ 12 then some (allTo n.toNat) else none
theorem lenTo_len (len b : Nat) : (lenTo len b).length ≤ b := by
  induction b with
  | zero => simp [lenTo]
  | succ b ih => unfold lenTo; rw [List.length_append]; split <;> simp <;> omega
theorem allTo_len (m : Nat) (h : m ≤ 12) : (allTo m).length ≤ 14 * m := by
  induction m with
  | zero => simp [allTo]
  | succ m ih =>
    have := lenTo_len (m + 1) (m + 2)
    unfold allTo
    rw [List.length_append]
    have := ih (by omega)
    omega
theorem uptoAns_len (n : Int) : ((uptoAns n).getD []).length ≤ 1000000000000 := by
  unfold uptoAns
  split
  · rename_i h
    have := allTo_len n.toNat (by omega)
    simp; omega
  · simp
theorem own_pushed {B : Nat} {w : World} {v : Value} {L : List (List UInt8)} {t : ByteArray} {x : List UInt8} (hx : strV x = .string t)
    (h : w.ownsRow B 9 1 v (L.length + 1) (L.map strV ++ [.string t])) : w.ownsRow B 9 1 v (L ++ [x]).length ((L ++ [x]).map strV) := by
  rw [List.length_append, List.map_append, List.map_cons, List.map_nil, hx]; exact h

set_option maxRecDepth 20000 in
set_option maxHeartbeats 4000000 in
theorem specChristoffelUpTo_any (n : Int) (w : World) : Calls Try.prog 11 #[.int .i64 n] w fun e w' => StrsAns w (uptoAns n) e w' := by
  by_cases hn : 1 ≤ n ∧ n ≤ 12
  · have HB := hid ((within_iff 1 12 n).2 hn)
    have HA := hid (show uptoAns n = some (allTo n.toNat) by unfold uptoAns; rw [if_pos hn])
    obtain ⟨N, rfl⟩ : ∃ N : Nat, n = (N : Int) := ⟨n.toNat, by omega⟩
    have hN1 : 1 ≤ N := by omega
    have hN : N ≤ 12 := by omega
    rw [Int.toNat_natCast] at HA
    rw [HA.out]
    obtain ⟨i0, hi, hz0, hz1, hz2⟩ := info_parts Try.infoStr
    clear hn
    have HSTEP := hid (fun len b => show lenTo len (b + 1) = lenTo len b ++ (if gcdW ((len - b : Nat) : Int) (b : Int) = 1 then [chW (len - b) b] else []) from rfl)
    have HG := hid (fun (a b : Nat) w (h : a + b ≤ 40) => foGcd_at (a : Int) (b : Int) w (mid40 (by omega)) (mid40 (by omega)))
    have HC := hid (fun (a b : Nat) w (h1 : 1 ≤ a + b) (h : a + b ≤ 40) => chWord_any a b w h1 h)
    go_enter Try.func11, Try.ntmps11
    go_wp2_with fail
    refine (l1In_as _ _ _ _ _ HB.out).mono ?_
    rintro e w' ⟨rfl, rfl⟩
    go_wp2_with fail
    go_loopw [4, 5] (fun o i wr => ∃ m : Nat, m ≤ N ∧ i = .int .i64 ((m : Int) + 1) ∧ wr.ownsRow w.heap.size 9 1 o (allTo m).length ((allTo m).map strV) ∧ Later w wr) (fun _ i _ => (13 - intOf i).toNat)
    case atStart => exact ⟨0, Nat.zero_le _, rfl, ⟨rfl, .inl ⟨rfl, rfl⟩⟩, Later.refl _⟩
    case round =>
      obtain ⟨m, hm, rfl, ho, hL⟩ := hrel
      have HO := hid ho
      have HLr := hid hL
      have hml := allTo_len m (by omega)
      clear ho hL
      by_cases hlt : m < N
      · have hltI : (m : Int) + 1 ≤ (N : Int) := by omega
        have HAT := hid (show allTo (m + 1) = allTo m ++ lenTo (m + 1) (m + 2) from rfl)
        go_wp2_with fail
        go_loopw [4, 6] (fun o i wr2 => ∃ b : Nat, b ≤ m + 2 ∧ i = .int .i64 b ∧ wr2.ownsRow w.heap.size 9 1 o (allTo m ++ lenTo (m + 1) b).length ((allTo m ++ lenTo (m + 1) b).map strV) ∧ Later w wr2) (fun _ i _ => (m + 2) - (intOf i).toNat)
        case atStart => exact ⟨0, Nat.zero_le _, rfl, by simpa [lenTo] using HO.out, HLr.out⟩
        case round =>
          obtain ⟨b, hb, rfl, ho2, hL2⟩ := hrel
          have HLl := hid (lenTo_len (m + 1) b)
          by_cases hbm : b < m + 2
          · have hbI : (b : Int) ≤ (m : Int) + 1 := by omega
            obtain ⟨c, hc⟩ : ∃ c, m + 1 - b = c := ⟨_, rfl⟩
            have hcI : (m : Int) + 1 - (b : Int) = (c : Int) := by omega
            have hcb : c + b ≤ 40 := by omega
            have hcb1 : 1 ≤ c + b := by omega
            have HS := hid (HSTEP.out (m + 1) b)
            rw [hc] at HS
            obtain ⟨L, hLe⟩ : ∃ L, allTo m ++ lenTo (m + 1) b = L := ⟨_, rfl⟩
            have hLl : L.length ≤ 200 := by rw [← hLe, List.length_append]; have := HLl.out; omega
            have HLE := hid hLe
            rw [hLe] at ho2
            have HO2 := hid ho2
            have HL2 := hid hL2
            have HGc := hid (HG.out c b wr hcb)
            clear ho2 hL2 hLe hc
            by_cases hg : gcdW (c : Int) (b : Int) = 1
            · have HX := hid (show allTo m ++ lenTo (m + 1) (b + 1) = L ++ [chW c b] by rw [HS.out, if_pos hg, ← List.append_assoc, HLE.out])
              rw [hg] at HGc
              clear hg
              go_wp2_with fail
              refine HGc.out.mono ?_
              rintro e w' ⟨rfl, rfl⟩
              go_wp2_with fail
              refine (HC.out c b _ hcb1 hcb).mono ?_
              rintro e w3 ⟨rfl, hL3⟩
              obtain ⟨t, ht⟩ : ∃ t : ByteArray, (⟨(chW c b).toArray⟩ : ByteArray) = t := ⟨_, rfl⟩
              have HST := hid (show strV (chW c b) = .string t by rw [← ht]; rfl)
              rw [ht]
              have HOW := hid ((show w3.ownsRow w.heap.size 9 1 _ L.length (L.map strV) from ownsRow_keep HO2.out fun b hb => hL3.block b (HO2.out.lt b hb).2).alloc (.cells #[Value.string t] 9))
              have HLA := hid ((HL2.out.trans hL3).trans (Later.alloc w3 (.cells #[Value.string t] 9)))
              have hws := hid ((HL2.out.trans hL3).size)
              have HOB := hid (fun b (hb : _ = some b) => (HO2.out.lt b hb).1)
              clear ht hL3
              go_wp2_with (at_builtin; refine wpList_append_lies _ (by rfl) _ _ _ (by rfl) w.heap.size 9 i0 (.string ⟨#[]⟩) 1 16 Try.underlying22 hi hz0 hz1 hz2 rfl (by omega) _ L.length (L.map strV) (by rfl) (by exact HOW.out) ⟨w3.heap.size, 0, none⟩ 1 1 [.string t] (by rfl) (by rfl) (World.news_of_block (cs := #[.string t]) (t := 9) (fr := (0, 0)) (heap_alloc_new w3 _)) (by simp [Value.oneCell']) (by omega) (by unfold maxLen; omega) (by omega) (by have := hws.out; simp; omega) (w3.heap.size + 1) (by simp) ?_)
              intro g cap1 w4 hown1 hgrow hat hglt
              have HP := hid (own_pushed HST.out hown1)
              have HLn := hid (show Later w w4 from HLA.out.grown hgrow (by have := hws.out; simp; omega) (fun b hb => HOB.out b hb))
              clear hown1 hgrow hat hglt
              go_wp2_with fail
              go_roundw
              case rel => exact ⟨b + 1, by omega, by go_num, by rw [HX.out]; exact HP.out, HLn.out⟩
              case measure => simp [intOf]; omega
            · have hgb : (gcdW (c : Int) (b : Int) == 1) = false := by simp [hg]
              have HX := hid (show allTo m ++ lenTo (m + 1) (b + 1) = L by rw [HS.out, if_neg hg, List.append_nil, HLE.out])
              obtain ⟨g, hgv⟩ : ∃ g, gcdW (c : Int) (b : Int) = g := ⟨_, rfl⟩
              rw [hgv] at HGc hgb
              clear hg hgv
              go_wp2_with fail
              refine HGc.out.mono ?_
              rintro e w' ⟨rfl, rfl⟩
              go_wp2_with fail
              go_roundw
              case rel => exact ⟨b + 1, by omega, by go_num, by rw [HX.out]; exact HO2.out, HL2.out⟩
              case measure => simp [intOf]; omega
          · have hbe : b = m + 2 := by omega
            subst hbe
            rw [← HAT.out] at ho2
            have HO2 := hid ho2
            have HL2 := hid hL2
            clear ho2 hL2 hb
            go_wp2_with fail
            go_roundw
            case rel => exact ⟨m + 1, hlt, by go_num, HO2.out, HL2.out⟩
            case measure => simp [intOf]; omega
      · have hme : m = N := by omega
        subst hme
        go_wp2_with fail
        go_ret2
        exact ⟨_, rfl, ⟨HO.out, fun b hb => (HO.out.lt b hb).2⟩, HLr.out⟩
  · have HB := hid (within_not hn)
    have HA := hid (show uptoAns n = none by unfold uptoAns; rw [if_neg hn])
    rw [HA.out]
    clear hn
    go_enter Try.func11, Try.ntmps11
    go_wp2_with fail
    refine (l1In_as _ _ _ _ _ HB.out).mono ?_
    rintro e w' ⟨rfl, rfl⟩
    go_wp2_with fail
    go_ret2
    exact ⟨_, rfl, OwnStrs.nil _ _ _, Later.refl _⟩
theorem chAns_nat (c b : Nat) (h : c + b ≤ 40) : chAns (c : Int) (b : Int) = if gcdW (c : Int) (b : Int) = 1 then some (chW c b) else none := by
  unfold chAns
  by_cases hg : gcdW (c : Int) (b : Int) = 1
  · rw [if_pos hg, if_pos (show chOk _ _ from ⟨by omega, by omega, by omega, by omega, hg⟩)]; rfl
  · rw [if_neg hg, if_neg (fun h => hg h.2.2.2.2)]

set_option maxRecDepth 20000 in
set_option maxHeartbeats 4000000 in
theorem implChristoffelUpTo_any (n : Int) (w : World) : Calls Try.prog 12 #[.int .i64 n] w fun e w' => StrsAns w (uptoAns n) e w' := by
  by_cases hn : 1 ≤ n ∧ n ≤ 12
  · have HA := hid (show uptoAns n = some (allTo n.toNat) by unfold uptoAns; rw [if_pos hn])
    obtain ⟨N, rfl⟩ : ∃ N : Nat, n = (N : Int) := ⟨n.toNat, by omega⟩
    have hN1 : 1 ≤ N := by omega
    have hN : N ≤ 12 := by omega
    rw [Int.toNat_natCast] at HA
    rw [HA.out]
    obtain ⟨i0, hi, hz0, hz1, hz2⟩ := info_parts Try.infoStr
    clear hn
    have HSTEP := hid (fun len b => show lenTo len (b + 1) = lenTo len b ++ (if gcdW ((len - b : Nat) : Int) (b : Int) = 1 then [chW (len - b) b] else []) from rfl)
    have HC := hid (fun (a b : Int) w => implChristoffelOf_any a b w)
    go_enter Try.func12, Try.ntmps12
    go_wp2_with fail
    go_loopw [4, 5] (fun o i wr => ∃ m : Nat, m ≤ N ∧ i = .int .i64 ((m : Int) + 1) ∧ wr.ownsRow w.heap.size 9 1 o (allTo m).length ((allTo m).map strV) ∧ Later w wr) (fun _ i _ => (13 - intOf i).toNat)
    case atStart => exact ⟨0, Nat.zero_le _, rfl, ⟨rfl, .inl ⟨rfl, rfl⟩⟩, Later.refl _⟩
    case round =>
      obtain ⟨m, hm, rfl, ho, hL⟩ := hrel
      have HO := hid ho
      have HLr := hid hL
      have hml := allTo_len m (by omega)
      clear ho hL
      by_cases hlt : m < N
      · have hltI : (m : Int) + 1 ≤ (N : Int) := by omega
        have HAT := hid (show allTo (m + 1) = allTo m ++ lenTo (m + 1) (m + 2) from rfl)
        go_wp2_with fail
        go_loopw [4, 6] (fun o i wr2 => ∃ b : Nat, b ≤ m + 2 ∧ i = .int .i64 b ∧ wr2.ownsRow w.heap.size 9 1 o (allTo m ++ lenTo (m + 1) b).length ((allTo m ++ lenTo (m + 1) b).map strV) ∧ Later w wr2) (fun _ i _ => (m + 2) - (intOf i).toNat)
        case atStart => exact ⟨0, Nat.zero_le _, rfl, by simpa [lenTo] using HO.out, HLr.out⟩
        case round =>
          obtain ⟨b, hb, rfl, ho2, hL2⟩ := hrel
          have HLl := hid (lenTo_len (m + 1) b)
          by_cases hbm : b < m + 2
          · have hbI : (b : Int) ≤ (m : Int) + 1 := by omega
            obtain ⟨c, hc⟩ : ∃ c, m + 1 - b = c := ⟨_, rfl⟩
            have hcI : (m : Int) + 1 - (b : Int) = (c : Int) := by omega
            have HCA := hid (chAns_nat c b (by omega))
            have HS := hid (HSTEP.out (m + 1) b)
            rw [hc] at HS
            obtain ⟨L, hLe⟩ : ∃ L, allTo m ++ lenTo (m + 1) b = L := ⟨_, rfl⟩
            have hLl : L.length ≤ 200 := by rw [← hLe, List.length_append]; have := HLl.out; omega
            have HLE := hid hLe
            rw [hLe] at ho2
            have HO2 := hid ho2
            have HL2 := hid hL2
            clear ho2 hL2 hLe hc
            by_cases hg : gcdW (c : Int) (b : Int) = 1
            · have HX := hid (show allTo m ++ lenTo (m + 1) (b + 1) = L ++ [chW c b] by rw [HS.out, if_pos hg, ← List.append_assoc, HLE.out])
              have HCS := hid (show chAns (c : Int) (b : Int) = some (chW c b) by rw [HCA.out, if_pos hg])
              clear hg
              go_wp2_with fail
              refine (HC.out (c : Int) (b : Int) _).mono ?_
              rintro e w3 ⟨rfl, hL3⟩
              rw [HCS.out]
              obtain ⟨t, ht⟩ : ∃ t : ByteArray, (⟨(chW c b).toArray⟩ : ByteArray) = t := ⟨_, rfl⟩
              have HST := hid (show strV (chW c b) = .string t by rw [← ht]; rfl)
              rw [show (⟨((some (chW c b) : Option (List UInt8)).getD []).toArray⟩ : ByteArray) = t from ht]
              have HOW := hid ((show w3.ownsRow w.heap.size 9 1 _ L.length (L.map strV) from ownsRow_keep HO2.out fun b hb => hL3.block b (HO2.out.lt b hb).2).alloc (.cells #[Value.string t] 9))
              have HLA := hid ((HL2.out.trans hL3).trans (Later.alloc w3 (.cells #[Value.string t] 9)))
              have hws := hid ((HL2.out.trans hL3).size)
              have HOB := hid (fun b (hb : _ = some b) => (HO2.out.lt b hb).1)
              clear ht hL3
              go_wp2_with (at_builtin; refine wpList_append_lies _ (by rfl) _ _ _ (by rfl) w.heap.size 9 i0 (.string ⟨#[]⟩) 1 16 Try.underlying22 hi hz0 hz1 hz2 rfl (by omega) _ L.length (L.map strV) (by rfl) (by exact HOW.out) ⟨w3.heap.size, 0, none⟩ 1 1 [.string t] (by rfl) (by rfl) (World.news_of_block (cs := #[.string t]) (t := 9) (fr := (0, 0)) (heap_alloc_new w3 _)) (by simp [Value.oneCell']) (by omega) (by unfold maxLen; omega) (by omega) (by have := hws.out; simp; omega) (w3.heap.size + 1) (by simp) ?_)
              intro g cap1 w4 hown1 hgrow hat hglt
              have HP := hid (own_pushed HST.out hown1)
              have HLn := hid (show Later w w4 from HLA.out.grown hgrow (by have := hws.out; simp; omega) (fun b hb => HOB.out b hb))
              clear hown1 hgrow hat hglt
              go_wp2_with fail
              go_roundw
              case rel => exact ⟨b + 1, by omega, by go_num, by rw [HX.out]; exact HP.out, HLn.out⟩
              case measure => simp [intOf]; omega
            · have HX := hid (show allTo m ++ lenTo (m + 1) (b + 1) = L by rw [HS.out, if_neg hg, List.append_nil, HLE.out])
              have HCS := hid (show chAns (c : Int) (b : Int) = none by rw [HCA.out, if_neg hg])
              clear hg
              go_wp2_with fail
              refine (HC.out (c : Int) (b : Int) _).mono ?_
              rintro e w3 ⟨rfl, hL3⟩
              rw [HCS.out]
              have HO3 := hid (show w3.ownsRow w.heap.size 9 1 _ L.length (L.map strV) from ownsRow_keep HO2.out fun b hb => hL3.block b (HO2.out.lt b hb).2)
              have HL3 := hid (HL2.out.trans hL3)
              clear hL3
              go_wp2_with fail
              go_roundw
              case rel => exact ⟨b + 1, by omega, by go_num, by rw [HX.out]; exact HO3.out, HL3.out⟩
              case measure => simp [intOf]; omega
          · have hbe : b = m + 2 := by omega
            subst hbe
            rw [← HAT.out] at ho2
            have HO2 := hid ho2
            have HL2 := hid hL2
            clear ho2 hL2 hb
            go_wp2_with fail
            go_roundw
            case rel => exact ⟨m + 1, hlt, by go_num, HO2.out, HL2.out⟩
            case measure => simp [intOf]; omega
      · have hme : m = N := by omega
        subst hme
        go_wp2_with fail
        go_ret2
        exact ⟨_, rfl, ⟨HO.out, fun b hb => (HO.out.lt b hb).2⟩, HLr.out⟩
  · have HA := hid (show uptoAns n = none by unfold uptoAns; rw [if_neg hn])
    rw [HA.out]
    by_cases h1 : n < 1
    · clear hn
      go_enter Try.func12, Try.ntmps12
      go_wp2_with fail
      go_ret2
      exact ⟨_, rfl, OwnStrs.nil _ _ _, Later.refl _⟩
    · have h2 : 12 < n := by omega
      clear hn
      go_enter Try.func12, Try.ntmps12
      go_wp2_with fail
      go_ret2
      exact ⟨_, rfl, OwnStrs.nil _ _ _, Later.refl _⟩
end Go.Proofs.Ytmmapfdmdliifab
