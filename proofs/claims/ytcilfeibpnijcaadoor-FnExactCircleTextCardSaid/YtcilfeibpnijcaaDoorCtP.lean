/- CircleText, in the model and in the program. -/
import Derived.Test.YtcilfeibpnijcaaDoorCtX
import Derived.Lib.AppendIntMem
namespace Go.Proofs.YtcilfeibpnijcaaDoor
open Go.RowKit

set_option maxRecDepth 20000 in
set_option maxHeartbeats 2000000 in
theorem specCircleText_any (a b x y : Int) (w : World) :
    Calls Tryd.prog 4 #[.agg #[.int .i64 a, .int .i64 b, .int .i64 x, .int .i64 y]] w fun e w' => StrAns w (ctAns (a, b, x, y)) e w' := by
  have HL := hid (Later.alloc w (.cells #[.int .i64 a, .int .i64 b, .int .i64 x, .int .i64 y] 26))
  have HC := hid (CBox.new w a b x y 26)
  cases hin : ciB (a, b, x, y)
  · have HR := hid (show ctAns (a, b, x, y) = none by unfold ctAns; rw [hin]; rfl)
    have HG := hid (fun w => ciGood_as a b x y false w hin)
    rw [HR.out]
    clear hin HR
    go_enter Tryd.func4, Tryd.ntmps4
    go_wp2_with fail
    generalize w.alloc (.cells #[.int .i64 a, .int .i64 b, .int .i64 x, .int .i64 y] 26) = w1 at HL HC ⊢
    obtain ⟨c0, c1, c2, c3⟩ := HC.out
    go_wp2_with fail
    refine (HG.out _).mono ?_
    rintro e w2 ⟨rfl, hL⟩
    have HL2 := hid (HL.out.trans hL)
    clear hL
    go_wp2_with fail
    go_ret2
    exact ⟨rfl, HL2.out⟩
  · have HR := hid (show ctAns (a, b, x, y) = some (ctT (a, b, x, y)) by unfold ctAns; rw [hin]; rfl)
    have HG := hid (fun w => ciGood_as a b x y true w hin)
    have HT := hid (fun w => ciText_any a b x y (ciB_in hin) w)
    rw [HR.out]
    generalize ctT (a, b, x, y) = T at HT ⊢
    clear hin HR
    go_enter Tryd.func4, Tryd.ntmps4
    go_wp2_with fail
    generalize w.alloc (.cells #[.int .i64 a, .int .i64 b, .int .i64 x, .int .i64 y] 26) = w1 at HL HC ⊢
    obtain ⟨c0, c1, c2, c3⟩ := HC.out
    go_wp2_with fail
    refine (HG.out _).mono ?_
    rintro e w2 ⟨rfl, hL⟩
    have HL2 := hid (HL.out.trans hL)
    have HC2 := hid (HC.out.later hL)
    clear hL c0 c1 c2 c3
    obtain ⟨c0, c1, c2, c3⟩ := HC2.out
    go_wp2_with fail
    refine (HT.out _).mono ?_
    rintro e w3 ⟨rfl, hL⟩
    have HL3 := hid (HL2.out.trans hL)
    clear hL
    go_wp2_with fail
    go_ret2
    exact ⟨rfl, HL3.out⟩

/-! ### the program's -/
def strL (l : List UInt8) : Value := .string ⟨l.toArray⟩
def ctL (t : Ci4) : List (List UInt8) := [Lib.itoa t.1, Lib.itoa t.2.1, Lib.itoa t.2.2.1, Lib.itoa t.2.2.2]
def TabHere (w : World) : Prop := Lib.TabIs Tryd.prog w "internal/strconv.uint64pow10" .u64 Lib.pow10Tab
theorem TabHere.later {w w' : World} (h : TabHere w) (k : Later w w') : TabHere w' :=
  Go.Joins.tab_stays (g := 0) (by kernel_rfl) h k (Nat.le_refl _)
theorem Tryd.infoStr : (Tryd.prog.info? 9).map (fun i => (i.zero, i.size, i.bytes)) = some (some (.string ⟨#[]⟩), 1, 16) := by kernel_rfl
theorem itoa_any (z : Int) (hz : -1000000 ≤ z ∧ z ≤ 1000000) (w : World) (ht : TabHere w) :
    Calls Tryd.prog 15 #[.int .i64 z] w fun e w' => e = .returned (strL (Lib.itoa z)) ∧ Later w w' :=
  (Any.strconv_Itoa laysLaysM171 z (by omega) (by omega) w ht).mono fun e w' ⟨he, k, os, hw⟩ => ⟨he, hw ▸ Lib.below_grow _ w (Nat.le_refl _) k os⟩
def OwnSL (lo hi : Nat) (w : World) (v : Value) (L : List (List UInt8)) : Prop :=
  w.ownsRow lo 9 1 v L.length (L.map strL) ∧ ∀ k, v.ownBlock = some k → k < hi
theorem OwnSL.later {w w' : World} {lo hi : Nat} {v : Value} {L : List (List UInt8)} (h : OwnSL lo hi w v L) (k : Later w w') : OwnSL lo hi w' v L :=
  ⟨ownsRow_keep h.1 fun b hb => k.block b (h.1.lt b hb).2, h.2⟩
theorem OwnSL.nil (lo hi : Nat) (w : World) : OwnSL lo hi w (.slice none 0 0) [] := ⟨⟨rfl, .inl ⟨rfl, rfl⟩⟩, fun k hk => by simp [Value.ownBlock] at hk⟩
theorem ct_pushed {B : Nat} {w : World} {v : Value} {L : List (List UInt8)} {t : ByteArray} {x : List UInt8} (hx : strL x = .string t)
    (h : w.ownsRow B 9 1 v (L.length + 1) (L.map strL ++ [.string t])) : w.ownsRow B 9 1 v (L ++ [x]).length ((L ++ [x]).map strL) := by
  rw [List.length_append, List.map_append, List.map_cons, List.map_nil, hx]; exact h
theorem builderX : Builder.Extra Tryd.prog laysLays156_ren := {
  sizeBuilder := by kernel_rfl
  liesBuilder := by kernel_rfl
  t5 := Tryd.underlying5
  a5 := Tryd.isAgg5
  z5 := Tryd.sizeOf5
  v5 := Tryd.zeroValue5
  infoByte := by kernel_rfl
  cellsByte := by kernel_rfl
  sizeByte := by kernel_rfl
  neB5 := by decide }
theorem datas (L : List (List UInt8)) : ((L.map fun l => (⟨l.toArray⟩ : ByteArray)).map (·.data.toList)) = L := by
  rw [List.map_map]
  exact (List.map_congr_left (fun l _ => by simp)).trans (List.map_id L)
theorem join_any (v : Value) (L : List (List UInt8)) (lo hi : Nat) (w : World) (h : OwnSL lo hi w v L) (hl : 0 < L.length) (h1 : L.length ≤ 1000) (h2 : (Lib.join L [32]).length ≤ 1000000) :
    Calls Tryd.prog 16 #[v, .string ⟨#[32]⟩] w fun e w' => e = .returned (strL (Lib.join L [32])) ∧ Later w w' := by
  obtain ⟨a, cap, rfl, hcap, hm, _, hc⟩ := ownsRow_shape h.1
  obtain ⟨g, rfl, hg⟩ := hc 0 hl
  have hlt := World.block_lt_of_cell? w ⟨g, 0, none⟩ (hg.trans (show (L.map strL)[0]? = some (strL L[0]) by rw [List.getElem?_map, List.getElem?_eq_getElem hl]; rfl))
  have hlen : (L.map fun l => (⟨l.toArray⟩ : ByteArray)).length = L.length := List.length_map ..
  have k := Any.strings_Join laysLays156 builderX g 0 cap (L.map fun l => (⟨l.toArray⟩ : ByteArray)) ⟨#[32]⟩ w
    (fun j x hx => by
      rw [List.getElem?_map, Option.map_eq_some_iff] at hx
      obtain ⟨l, h3, rfl⟩ := hx
      have hj := (List.getElem?_eq_some_iff.1 h3).1
      obtain ⟨g2, e2, hgj⟩ := hc j hj
      simp only [Option.some.injEq, Addr.mk.injEq, and_true] at e2
      rw [Nat.zero_add, e2, hgj, List.getElem?_map, h3]
      rfl)
    hlt (by rw [hlen]; omega) (by rw [hlen]; exact hcap) (by rw [datas]; exact Nat.le_trans h2 (by omega))
  rw [datas, hlen] at k
  exact k.mono fun e w' ⟨he, hb⟩ => ⟨he, hb⟩
theorem ctL_take (t : Ci4) (k : Nat) (h : k < 4) : (ctL t).take (k + 1) = (ctL t).take k ++ [Lib.itoa ([t.1, t.2.1, t.2.2.1, t.2.2.2].getD k 0)] := by
  match k, h with
  | 0, _ => rfl
  | 1, _ => rfl
  | 2, _ => rfl
  | 3, _ => rfl
theorem ctL_len (t : Ci4) : (ctL t).length = 4 := rfl
theorem ctJ_len (t : Ci4) (h : ciIn t = true) : (Lib.join (ctL t) [32]).length ≤ 1000000 := by
  obtain ⟨a, b, x, y⟩ := t
  obtain ⟨ha, hb, hx, hy⟩ := ciIn_bd h
  have la := itoa_len a (by omega)
  have lb := itoa_len b (by omega)
  have lx := itoa_len x (by omega)
  have ly := itoa_len y (by omega)
  unfold ctL
  rw [Lib.join_cons]
  simp [Lib.joinTail]
  omega

def ctF (t : Ci4) (k : Nat) : List (List UInt8) := (ctL t).take k ++ List.replicate (4 - k) []
theorem ctF_len (t : Ci4) (k : Nat) (h : k ≤ 4) : (ctF t k).length = 4 := by unfold ctF; rw [List.length_append, List.length_take, ctL_len, List.length_replicate]; omega
theorem ctF_set (t : Ci4) (k : Nat) (h : k < 4) : (ctF t k).set k (Lib.itoa ([t.1, t.2.1, t.2.2.1, t.2.2.2].getD k 0)) = ctF t (k + 1) := by
  match k, h with
  | 0, _ => rfl
  | 1, _ => rfl
  | 2, _ => rfl
  | 3, _ => rfl
set_option maxRecDepth 20000 in
set_option maxHeartbeats 4000000 in
theorem textOfNumbers_any (a b x y : Int) (hin : ciIn (a, b, x, y) = true) (v : Value) (w : World) (htab : TabHere w) (h : Ints w v [a, b, x, y]) :
    Calls Tryd.prog 10 #[v, .string ⟨#[32]⟩] w fun e w' => e = .returned (strL (Lib.join (ctL (a, b, x, y)) [32])) ∧ Later w w' := by
  have HJ := hid (ctJ_len (a, b, x, y) hin)
  have HBD := hid (ciIn_bd hin)
  have HTB := hid htab
  have HI := hid h
  obtain ⟨a3, cap3, rfl, _⟩ := id h
  obtain ⟨i0, hi, hz0, hz1, hz2⟩ := info_parts Tryd.infoStr
  have hlen4 : ([a, b, x, y] : List Int).length = 4 := rfl
  rw [hlen4] at HI ⊢
  clear hlen4 hin htab h
  go_enter Tryd.func10, Tryd.ntmps10
  go_wp2_with (first | (at_make; refine wpList_make_full _ rfl _ _ 37 rfl w.heap.size 9 i0 (.string ⟨#[]⟩) 1 Tryd.underlying37 hi hz0 hz1 _ _ _ _ 4 rfl rfl rfl rfl ?b2 ?b3 ?b4 ?_))
  case b2 => rw [hz2]; omega
  case b3 => unfold maxLen; omega
  case b4 => exact Nat.le_refl _
  intro w1 hown hgrow
  have hL1 : Later w w1 := (Below.refl _ _).grown hgrow (Nat.le_refl _) (by simp)
  obtain ⟨g, hg⟩ : ∃ g, w.heap.size = g := ⟨_, rfl⟩
  rw [hg] at hown ⊢
  have HG := hid hg
  have HO1 := hid (show w1.ownsRow g 9 1 (.slice (some ⟨g, 0, none⟩) 4 4) 4 ((ctF (a, b, x, y) 0).map strL) from by
    have e : ((ctF (a, b, x, y) 0).map strL) = (madeCells #[Value.string ⟨#[]⟩] 4).toList := by rw [toList_madeCells_one]; rfl
    rw [e]; exact hown)
  have HL1 := hid hL1
  clear hown hgrow hL1 hg hi hz0 hz1 hz2
  go_wp2_with fail
  go_loopw [13] (fun i wr => ∃ k : Nat, k ≤ 4 ∧ i = .int .i64 k ∧ wr.ownsRow g 9 1 (.slice (some ⟨g, 0, none⟩) 4 4) 4 ((ctF (a, b, x, y) k).map strL) ∧ Later w wr) (fun i _ => 4 - (intOf i).toNat)
  case atStart => exact ⟨0, Nat.zero_le _, rfl, HO1.out, HL1.out⟩
  case round =>
    obtain ⟨k, hk, rfl, hO, hLk⟩ := hrel
    by_cases hlt : k < 4
    · obtain ⟨aa, cc, e0, hq1, hcell⟩ := HI.out.later hLk
      simp only [Value.slice.injEq] at e0
      obtain ⟨e0, hq2, hq3⟩ := e0
      subst e0
      clear hq1 hq2 hq3
      obtain ⟨ad, rfl, hx⟩ := hcell k hlt
      have HB := hid (show -1000000 ≤ ([a, b, x, y] : List Int).getD k 0 ∧ ([a, b, x, y] : List Int).getD k 0 ≤ 1000000 by
        obtain ⟨ha, hb, hx', hy⟩ := HBD.out
        match k, hlt with
        | 0, _ => exact ha
        | 1, _ => exact hb
        | 2, _ => exact hx'
        | 3, _ => exact hy)
      have HS := hid (ctF_set (a, b, x, y) k hlt)
      have HM := hid (ctF_len (a, b, x, y) k hk)
      simp only at HS
      obtain ⟨z, hz⟩ : ∃ z, ([a, b, x, y] : List Int).getD k 0 = z := ⟨_, rfl⟩
      rw [hz] at hx HB HS
      have HT := hid (HTB.out.later hLk)
      have HO := hid hO
      have HL := hid hLk
      have hkI : (k : Int) < 4 := by omega
      have hk0 : (0 : Int) ≤ (k : Int) := by omega
      clear hz hcell hO hLk
      go_wp2_with fail
      refine (itoa_any z HB.out _ HT.out).mono ?_
      rintro e w4 ⟨rfl, hL4⟩
      have HO4 := hid (show w4.ownsRow g 9 1 (.slice (some ⟨g, 0, none⟩) 4 4) 4 ((ctF (a, b, x, y) k).map strL) from ownsRow_keep HO.out fun b hb => hL4.block b (HO.out.lt b hb).2)
      have HL4 := hid (HL.out.trans hL4)
      have hc := HO4.out.cellAt k (by omega)
      have hf := HO4.out.frozenAt k
      obtain ⟨q, hq⟩ : ∃ q, w4.cell? ⟨g, k, none⟩ = some q := ⟨_, hc.trans (List.getElem?_eq_getElem (by rw [List.length_map, HM.out]; exact hlt))⟩
      have HST := hid (fun u => (HO4.out.stored k u).1)
      clear hc hL4 hx
      obtain ⟨t, ht⟩ : ∃ t : ByteArray, (⟨(Lib.itoa z).toArray⟩ : ByteArray) = t := ⟨_, rfl⟩
      have HTT := hid (show strL (Lib.itoa z) = .string t by rw [← ht]; rfl)
      rw [HTT.out]
      clear ht
      go_wp2_with fail
      go_roundw
      case rel =>
        refine ⟨k + 1, by omega, by go_num, ?_, ?_⟩
        · have h := HST.out (.string t)
          rw [← HTT.out, ← List.map_set, HS.out, HTT.out] at h
          exact h
        · exact HL4.out.setCell (by simp only; have := HG.out; omega) (.string t)
      case measure => simp [intOf]; omega
    · obtain rfl : k = 4 := by omega
      have hT : ctF (a, b, x, y) 4 = ctL (a, b, x, y) := rfl
      rw [hT] at hO
      have HO := hid (show OwnSL g wr.heap.size wr (.slice (some ⟨g, 0, none⟩) 4 4) (ctL (a, b, x, y)) from ⟨hO, fun b hb => (hO.lt b hb).2⟩)
      have HL := hid hLk
      clear hO hLk
      go_wp2_with fail
      refine (join_any _ (ctL (a, b, x, y)) _ _ _ HO.out (by rw [ctL_len]; omega) (by rw [ctL_len]; omega) HJ.out).mono ?_
      rintro e w4 ⟨rfl, hL4⟩
      have HL4 := hid (HL.out.trans hL4)
      clear hL4
      go_wp2_with fail
      go_ret
      exact ⟨rfl, HL4.out⟩

set_option maxRecDepth 20000 in
set_option maxHeartbeats 4000000 in
theorem implCircleText_any (a b x y : Int) (w : World) (htab : TabHere w) :
    Calls Tryd.prog 6 #[.agg #[.int .i64 a, .int .i64 b, .int .i64 x, .int .i64 y]] w fun e w' => StrAns w (ctAns (a, b, x, y)) e w' := by
  have HL := hid (Later.alloc w (.cells #[.int .i64 a, .int .i64 b, .int .i64 x, .int .i64 y] 26))
  have HC := hid (CBox.new w a b x y 26)
  cases hin : ciB (a, b, x, y)
  · have HR := hid (show ctAns (a, b, x, y) = none by unfold ctAns; rw [hin]; rfl)
    have HG := hid (fun w => isCircle_as a b x y false w hin)
    rw [HR.out]
    clear hin HR htab
    go_enter Tryd.func6, Tryd.ntmps6
    go_wp2_with fail
    generalize w.alloc (.cells #[.int .i64 a, .int .i64 b, .int .i64 x, .int .i64 y] 26) = w1 at HL HC ⊢
    obtain ⟨c0, c1, c2, c3⟩ := HC.out
    go_wp2_with fail
    refine (HG.out _).mono ?_
    rintro e w2 ⟨rfl, hL⟩
    have HL2 := hid (HL.out.trans hL)
    clear hL
    go_wp2_with fail
    go_ret2
    exact ⟨rfl, HL2.out⟩
  · have HR := hid (show ctAns (a, b, x, y) = some (Lib.join (ctL (a, b, x, y)) [32]) by unfold ctAns; rw [hin]; rfl)
    have HG := hid (fun w => isCircle_as a b x y true w hin)
    have HIN := hid (ciB_in hin)
    have HTB := hid htab
    rw [HR.out]
    clear hin HR htab
    go_enter Tryd.func6, Tryd.ntmps6
    go_wp2_with fail
    generalize w.alloc (.cells #[.int .i64 a, .int .i64 b, .int .i64 x, .int .i64 y] 26) = w1 at HL HC ⊢
    obtain ⟨c0, c1, c2, c3⟩ := HC.out
    go_wp2_with fail
    refine (HG.out _).mono ?_
    rintro e w2 ⟨rfl, hL⟩
    have HL2 := hid (HL.out.trans hL)
    have HC2 := hid (HC.out.later hL)
    clear hL c0 c1 c2 c3
    obtain ⟨c0, c1, c2, c3⟩ := HC2.out
    go_wp2_with fail
    refine (numbers_any a b x y _).mono ?_
    rintro e w3 ⟨v3, rfl, hO, hL⟩
    have HL3 := hid (HL2.out.trans hL)
    have HX := hid (textOfNumbers_any a b x y HIN.out v3 w3 (HTB.out.later HL3.out) hO.ints)
    clear hO hL c0 c1 c2 c3
    go_wp2_with fail
    refine HX.out.mono ?_
    rintro e w4 ⟨rfl, hL4⟩
    have HL4 := hid (HL3.out.trans hL4)
    clear hL4
    go_wp2_with fail
    go_ret2
    exact ⟨rfl, HL4.out⟩
end Go.Proofs.YtcilfeibpnijcaaDoor
