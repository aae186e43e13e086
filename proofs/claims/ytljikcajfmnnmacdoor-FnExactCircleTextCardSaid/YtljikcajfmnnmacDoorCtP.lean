/- CircleText, in the model and in the program. -/
import Derived.Test.YtljikcajfmnnmacDoorCtX
import Derived.Lib.AppendIntMem
namespace Go.Proofs.YtljikcajfmnnmacDoor
open Go.RowKit

set_option maxRecDepth 20000 in
set_option maxHeartbeats 2000000 in
theorem specCircleText_any (a b x y : Int) (w : World) :
    Calls Tryd.prog 5 #[.agg #[.int .i64 a, .int .i64 b, .int .i64 x, .int .i64 y]] w fun e w' => StrAns w (ctAns (a, b, x, y)) e w' := by
  have HL := hid (Later.alloc w (.cells #[.int .i64 a, .int .i64 b, .int .i64 x, .int .i64 y] 26))
  have HC := hid (CBox.new w a b x y 26)
  cases hin : ciB (a, b, x, y)
  · have HR := hid (show ctAns (a, b, x, y) = none by unfold ctAns; rw [hin]; rfl)
    have HG := hid (fun w => ciGood_as a b x y false w hin)
    rw [HR.out]
    clear hin HR
    go_enter Tryd.func5, Tryd.ntmps5
    go_wp2_with fail
    generalize w.alloc (.cells #[.int .i64 a, .int .i64 b, .int .i64 x, .int .i64 y] 26) = w1 at HL HC ⊢
    obtain ⟨c0, c1, c2, c3⟩ := HC.out
    go_wp2_with fail
    refine (HG.out _).mono ?_
    rintro e w2 ⟨rfl, hL⟩
    have HL2 := hid (HL.out.trans hL)
    clear hL
    go_wp2_with fail
    go_ret2
    exact ⟨rfl, HL2.out⟩
  · have HR := hid (show ctAns (a, b, x, y) = some (ctT (a, b, x, y)) by unfold ctAns; rw [hin]; rfl)
    have HG := hid (fun w => ciGood_as a b x y true w hin)
    have HT := hid (fun w => ciText_any a b x y (ciB_in hin) w)
    rw [HR.out]
    generalize ctT (a, b, x, y) = T at HT ⊢
    clear hin HR
    go_enter Tryd.func5, Tryd.ntmps5
    go_wp2_with fail
    generalize w.alloc (.cells #[.int .i64 a, .int .i64 b, .int .i64 x, .int .i64 y] 26) = w1 at HL HC ⊢
    obtain ⟨c0, c1, c2, c3⟩ := HC.out
    go_wp2_with fail
    refine (HG.out _).mono ?_
    rintro e w2 ⟨rfl, hL⟩
    have HL2 := hid (HL.out.trans hL)
    have HC2 := hid (HC.out.later hL)
    clear hL c0 c1 c2 c3
    obtain ⟨c0, c1, c2, c3⟩ := HC2.out
    go_wp2_with fail
    refine (HT.out _).mono ?_
    rintro e w3 ⟨rfl, hL⟩
    have HL3 := hid (HL2.out.trans hL)
    clear hL
    go_wp2_with fail
    go_ret2
    exact ⟨rfl, HL3.out⟩

/-! ### the program's -/
def strL (l : List UInt8) : Value := .string ⟨l.toArray⟩
def ctL (t : Ci4) : List (List UInt8) := [Lib.itoa t.1, Lib.itoa t.2.1, Lib.itoa t.2.2.1, Lib.itoa t.2.2.2]
def TabHere (w : World) : Prop := Lib.TabIs Tryd.prog w "internal/strconv.uint64pow10" .u64 Lib.pow10Tab
theorem TabHere.later {w w' : World} (h : TabHere w) (k : Later w w') : TabHere w' :=
  Go.Joins.tab_stays (g := 2) (by kernel_rfl) h k (Nat.le_refl _)
theorem Tryd.infoStr : (Tryd.prog.info? 9).map (fun i => (i.zero, i.size, i.bytes)) = some (some (.string ⟨#[]⟩), 1, 16) := by kernel_rfl
theorem itoa_any (z : Int) (hz : -1000000 ≤ z ∧ z ≤ 1000000) (w : World) (ht : TabHere w) :
    Calls Tryd.prog 15 #[.int .i64 z] w fun e w' => e = .returned (strL (Lib.itoa z)) ∧ Later w w' :=
  (Any.strconv_Itoa laysLaysM171 z (by omega) (by omega) w ht).mono fun e w' ⟨he, k, os, hw⟩ => ⟨he, hw ▸ Lib.below_grow _ w (Nat.le_refl _) k os⟩
def OwnSL (lo hi : Nat) (w : World) (v : Value) (L : List (List UInt8)) : Prop :=
  w.ownsRow lo 9 1 v L.length (L.map strL) ∧ ∀ k, v.ownBlock = some k → k < hi
theorem OwnSL.later {w w' : World} {lo hi : Nat} {v : Value} {L : List (List UInt8)} (h : OwnSL lo hi w v L) (k : Later w w') : OwnSL lo hi w' v L :=
  ⟨ownsRow_keep h.1 fun b hb => k.block b (h.1.lt b hb).2, h.2⟩
theorem OwnSL.nil (lo hi : Nat) (w : World) : OwnSL lo hi w (.slice none 0 0) [] := ⟨⟨rfl, .inl ⟨rfl, rfl⟩⟩, fun k hk => by simp [Value.ownBlock] at hk⟩
theorem ct_pushed {B : Nat} {w : World} {v : Value} {L : List (List UInt8)} {t : ByteArray} {x : List UInt8} (hx : strL x = .string t)
    (h : w.ownsRow B 9 1 v (L.length + 1) (L.map strL ++ [.string t])) : w.ownsRow B 9 1 v (L ++ [x]).length ((L ++ [x]).map strL) := by
  rw [List.length_append, List.map_append, List.map_cons, List.map_nil, hx]; exact h
theorem builderX : Builder.Extra Tryd.prog laysLays156_ren := {
  sizeBuilder := by kernel_rfl
  liesBuilder := by kernel_rfl
  t5 := Tryd.underlying5
  a5 := Tryd.isAgg5
  z5 := Tryd.sizeOf5
  v5 := Tryd.zeroValue5
  infoByte := by kernel_rfl
  cellsByte := by kernel_rfl
  sizeByte := by kernel_rfl
  neB5 := by decide }
theorem datas (L : List (List UInt8)) : ((L.map fun l => (⟨l.toArray⟩ : ByteArray)).map (·.data.toList)) = L := by
  rw [List.map_map]
  exact (List.map_congr_left (fun l _ => by simp)).trans (List.map_id L)
theorem join_any (v : Value) (L : List (List UInt8)) (lo hi : Nat) (w : World) (h : OwnSL lo hi w v L) (hl : 0 < L.length) (h1 : L.length ≤ 1000) (h2 : (Lib.join L [32]).length ≤ 1000000) :
    Calls Tryd.prog 16 #[v, .string ⟨#[32]⟩] w fun e w' => e = .returned (strL (Lib.join L [32])) ∧ Later w w' := by
  obtain ⟨a, cap, rfl, hcap, hm, _, hc⟩ := ownsRow_shape h.1
  obtain ⟨g, rfl, hg⟩ := hc 0 hl
  have hlt := World.block_lt_of_cell? w ⟨g, 0, none⟩ (hg.trans (show (L.map strL)[0]? = some (strL L[0]) by rw [List.getElem?_map, List.getElem?_eq_getElem hl]; rfl))
  have hlen : (L.map fun l => (⟨l.toArray⟩ : ByteArray)).length = L.length := List.length_map ..
  have k := Any.strings_Join laysLays156 builderX g 0 cap (L.map fun l => (⟨l.toArray⟩ : ByteArray)) ⟨#[32]⟩ w
    (fun j x hx => by
      rw [List.getElem?_map, Option.map_eq_some_iff] at hx
      obtain ⟨l, h3, rfl⟩ := hx
      have hj := (List.getElem?_eq_some_iff.1 h3).1
      obtain ⟨g2, e2, hgj⟩ := hc j hj
      simp only [Option.some.injEq, Addr.mk.injEq, and_true] at e2
      rw [Nat.zero_add, e2, hgj, List.getElem?_map, h3]
      rfl)
    hlt (by rw [hlen]; omega) (by rw [hlen]; exact hcap) (by rw [datas]; exact Nat.le_trans h2 (by omega))
  rw [datas, hlen] at k
  exact k.mono fun e w' ⟨he, hb⟩ => ⟨he, hb⟩
theorem ctL_take (t : Ci4) (k : Nat) (h : k < 4) : (ctL t).take (k + 1) = (ctL t).take k ++ [Lib.itoa ([t.1, t.2.1, t.2.2.1, t.2.2.2].getD k 0)] := by
  match k, h with
  | 0, _ => rfl
  | 1, _ => rfl
  | 2, _ => rfl
  | 3, _ => rfl
theorem ctL_len (t : Ci4) : (ctL t).length = 4 := rfl
theorem ctJ_len (t : Ci4) (h : ciIn t = true) : (Lib.join (ctL t) [32]).length ≤ 1000000 := by
  obtain ⟨a, b, x, y⟩ := t
  obtain ⟨ha, hb, hx, hy⟩ := ciIn_bd h
  have la := itoa_len a (by omega)
  have lb := itoa_len b (by omega)
  have lx := itoa_len x (by omega)
  have ly := itoa_len y (by omega)
  unfold ctL
  rw [Lib.join_cons]
  simp [Lib.joinTail]
  omega

set_option maxRecDepth 20000 in
set_option maxHeartbeats 4000000 in
theorem implCircleText_any (a b x y : Int) (w : World) (htab : TabHere w) :
    Calls Tryd.prog 7 #[.agg #[.int .i64 a, .int .i64 b, .int .i64 x, .int .i64 y]] w fun e w' => StrAns w (ctAns (a, b, x, y)) e w' := by
  have HL := hid (Later.alloc w (.cells #[.int .i64 a, .int .i64 b, .int .i64 x, .int .i64 y] 26))
  have HC := hid (CBox.new w a b x y 26)
  cases hin : ciB (a, b, x, y)
  · have HR := hid (show ctAns (a, b, x, y) = none by unfold ctAns; rw [hin]; rfl)
    have HG := hid (fun w => isCircle_as a b x y false w hin)
    rw [HR.out]
    clear hin HR htab
    go_enter Tryd.func7, Tryd.ntmps7
    go_wp2_with fail
    generalize w.alloc (.cells #[.int .i64 a, .int .i64 b, .int .i64 x, .int .i64 y] 26) = w1 at HL HC ⊢
    obtain ⟨c0, c1, c2, c3⟩ := HC.out
    go_wp2_with fail
    refine (HG.out _).mono ?_
    rintro e w2 ⟨rfl, hL⟩
    have HL2 := hid (HL.out.trans hL)
    clear hL
    go_wp2_with fail
    go_ret2
    exact ⟨rfl, HL2.out⟩
  · have HR := hid (show ctAns (a, b, x, y) = some (Lib.join (ctL (a, b, x, y)) [32]) by unfold ctAns; rw [hin]; rfl)
    have HG := hid (fun w => isCircle_as a b x y true w hin)
    have HJ := hid (ctJ_len (a, b, x, y) (ciB_in hin))
    have HBD := hid (ciIn_bd (ciB_in hin))
    have HTB := hid htab
    obtain ⟨i0, hi, hz0, hz1, hz2⟩ := info_parts Tryd.infoStr
    rw [HR.out]
    clear hin HR htab
    go_enter Tryd.func7, Tryd.ntmps7
    go_wp2_with fail
    generalize w.alloc (.cells #[.int .i64 a, .int .i64 b, .int .i64 x, .int .i64 y] 26) = w1 at HL HC ⊢
    obtain ⟨c0, c1, c2, c3⟩ := HC.out
    go_wp2_with fail
    refine (HG.out _).mono ?_
    rintro e w2 ⟨rfl, hL⟩
    have HL2 := hid (HL.out.trans hL)
    have HC2 := hid (HC.out.later hL)
    clear hL c0 c1 c2 c3
    obtain ⟨c0, c1, c2, c3⟩ := HC2.out
    go_wp2_with fail
    refine (numbers_any a b x y _).mono ?_
    rintro e w3 ⟨v3, rfl, hO, hL⟩
    have HI := hid hO.ints
    obtain ⟨a3, cap3, rfl, hl3, hc3⟩ := hO.ints
    have HL3 := hid (HL2.out.trans hL)
    have HW3 := hid HL3.out.size
    clear hO hL hc3 hl3 c0 c1 c2 c3
    have hlen4 : ([a, b, x, y] : List Int).length = 4 := rfl
    rw [hlen4] at HI ⊢
    clear hlen4
    go_wp2_with fail
    go_loopw [4, 13] (fun o i wr => ∃ k : Nat, k ≤ 4 ∧ i = .int .i64 k ∧ OwnSL w3.heap.size wr.heap.size wr o ((ctL (a, b, x, y)).take k) ∧ Later w3 wr) (fun _ i _ => 4 - (intOf i).toNat)
    case atStart => exact ⟨0, Nat.zero_le _, rfl, OwnSL.nil _ _ _, Later.refl _⟩
    case round =>
      obtain ⟨k, hk, rfl, hO, hLk⟩ := hrel
      by_cases hlt : k < 4
      · obtain ⟨aa, cc, e0, hq1, hcell⟩ := HI.out.later hLk
        simp only [Value.slice.injEq] at e0
        obtain ⟨e0, hq2, hq3⟩ := e0
        subst e0
        clear hq1 hq2 hq3
        obtain ⟨ad, rfl, hx⟩ := hcell k hlt
        have HB := hid (show -1000000 ≤ ([a, b, x, y] : List Int).getD k 0 ∧ ([a, b, x, y] : List Int).getD k 0 ≤ 1000000 by
          obtain ⟨ha, hb, hx', hy⟩ := HBD.out
          match k, hlt with
          | 0, _ => exact ha
          | 1, _ => exact hb
          | 2, _ => exact hx'
          | 3, _ => exact hy)
        have HS := hid (ctL_take (a, b, x, y) k hlt)
        simp only at HS
        have HM := hid (show ((ctL (a, b, x, y)).take k).length = k by rw [List.length_take, ctL_len]; omega)
        obtain ⟨z, hz⟩ : ∃ z, ([a, b, x, y] : List Int).getD k 0 = z := ⟨_, rfl⟩
        rw [hz] at hx HB HS
        have HT := hid ((HTB.out.later HL3.out).later hLk)
        have HO := hid hO
        have HL := hid hLk
        clear hz hcell hO hLk
        go_wp2_with fail
        refine (itoa_any z HB.out _ HT.out).mono ?_
        rintro e w4 ⟨rfl, hL4⟩
        obtain ⟨t, ht⟩ : ∃ t : ByteArray, (⟨(Lib.itoa z).toArray⟩ : ByteArray) = t := ⟨_, rfl⟩
        have HST := hid (show strL (Lib.itoa z) = .string t by rw [← ht]; rfl)
        rw [HST.out]
        obtain ⟨G, hG⟩ : ∃ G, (ctL (a, b, x, y)).take k = G := ⟨_, rfl⟩
        rw [hG] at HO HS HM
        have HOW := hid ((show w4.ownsRow w3.heap.size 9 1 _ G.length (G.map strL) from ownsRow_keep HO.out.1 fun b hb => hL4.block b (HO.out.1.lt b hb).2).alloc (.cells #[Value.string t] 9))
        have HLA := hid ((HL.out.trans hL4).trans (Later.alloc w4 (.cells #[Value.string t] 9)))
        have hws := hid ((HL.out.trans hL4).size)
        have HOB := hid (fun b (hb : _ = some b) => (HO.out.1.lt b hb).1)
        have hGl : G.length ≤ 4 := by have := HM.out; omega
        clear ht hL4 hG hx
        go_wp2_with (at_builtin; refine wpList_append_lies _ (by rfl) _ _ _ (by rfl) w3.heap.size 9 i0 (.string ⟨#[]⟩) 1 16 Tryd.underlying35 hi hz0 hz1 hz2 rfl (by omega) _ G.length (G.map strL) (by rfl) (by exact HOW.out) ⟨w4.heap.size, 0, none⟩ 1 1 [.string t] (by rfl) (by rfl) (World.news_of_block (cs := #[.string t]) (t := 9) (fr := (0, 0)) (heap_alloc_new w4 _)) (by simp [Value.oneCell']) (by omega) (by unfold maxLen; omega) (by omega) (by have := hws.out; simp; omega) (w4.heap.size + 1) (by simp) ?_)
        intro g cap1 w5 hown1 hgrow hat hglt
        have HP := hid (ct_pushed HST.out hown1)
        have HLn := hid (show Later w3 w5 from HLA.out.grown hgrow (by have := hws.out; simp; omega) (fun b hb => HOB.out b hb))
        have hgl := hid hglt
        clear hown1 hgrow hat hglt
        go_wp2_with fail
        go_roundw
        case rel => exact ⟨k + 1, by omega, by go_num, by rw [HS.out]; exact ⟨HP.out, fun b hb => by simp [Value.ownBlock] at hb; subst hb; exact hgl.out⟩, HLn.out⟩
        case measure => simp [intOf]; omega
      · obtain rfl : k = 4 := by omega
        have hT : (ctL (a, b, x, y)).take 4 = ctL (a, b, x, y) := rfl
        rw [hT] at hO
        have HO := hid hO
        have HL := hid (HL3.out.trans hLk)
        clear hO hLk
        go_wp2_with fail
        refine (join_any _ (ctL (a, b, x, y)) _ _ _ HO.out (by rw [ctL_len]; omega) (by rw [ctL_len]; omega) HJ.out).mono ?_
        rintro e w4 ⟨rfl, hL4⟩
        have HL4 := hid (HL.out.trans hL4)
        clear hL4
        go_wp2_with fail
        go_ret2
        exact ⟨rfl, HL4.out⟩
end Go.Proofs.YtljikcajfmnnmacDoor
