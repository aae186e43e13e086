/- HuU, HuV, HuW: in one text. -/
import Derived.Test.YtoaopmafokoaoaaHuOP
import Derived.Laws.AppendOwnNone
namespace Go.Proofs.Ytoaopmafokoaoaa
open Go.RowKit


theorem cntGe_le (x : Int) (S : List Int) : cntGe x S ≤ S.length := by
  unfold cntGe
  induction S with
  | nil => simp
  | cons y ys ih => simp only [List.takeWhile_cons]; split <;> simp_all
theorem cntGe_lt (x : Int) (S : List Int) : ∀ j, j < cntGe x S → x ≤ S.getD j 0 := by
  unfold cntGe
  induction S with
  | nil => intro j hj; simp at hj
  | cons y ys ih =>
    intro j hj
    simp only [List.takeWhile_cons] at hj
    split at hj
    · rename_i hy
      cases j with
      | zero => simpa using hy
      | succ j => have := ih j (by simpa using hj); simpa using this
    · simp at hj
theorem cntGe_at (x : Int) (S : List Int) : cntGe x S < S.length → S.getD (cntGe x S) 0 < x := by
  unfold cntGe
  induction S with
  | nil => intro h; simp at h
  | cons y ys ih =>
    intro h
    simp only [List.takeWhile_cons] at h ⊢
    split at h
    · rename_i hy
      rw [if_pos hy]
      have := ih (by simpa using h)
      simpa using this
    · rename_i hy
      rw [if_neg hy]
      simp at hy ⊢
      omega
theorem sortD_take (zs : List Int) (k : Nat) (hk : k < zs.length) : sortD (zs.take (k + 1)) = insD (sortD (zs.take k)) zs[k] := by rw [take_snoc zs k hk, sortD_snoc]

set_option maxHeartbeats 400000 in
theorem l1OwnN_any (c : Nat) (w : World) : Calls Try.prog 56 #[.slice none 0 c] w fun e w' => MadeInts w [] e w' := by
  obtain ⟨i0, hi, hz0, hz1, hz2⟩ := info_parts Try.infoInt
  have hown : (w.alloc (.cells #[] 3)).ownsRow w.heap.size 3 1 (.slice (some ⟨w.heap.size, 0, none⟩) 0 0) 0 [] := by
    refine ⟨rfl, .inr ⟨w.heap.size, 0, #[], rfl, Nat.le_refl _, heap_alloc_new w _, Nat.le_refl _, by omega, by simp, by simp⟩⟩
  have HOW := hid hown
  clear hown
  go_enter Try.func56, Try.ntmps56
  go_wp2_with fail
  go_ret
  exact ⟨_, rfl, ⟨HOW.out, fun b hb => (HOW.out.lt b hb).2⟩, Later.alloc _ _⟩

set_option maxRecDepth 20000 in
set_option maxHeartbeats 4000000 in
theorem huSort_any (v : Value) (zs : List Int) (w : World) (hn : zs.length ≤ 4) (h : Ints w v zs) :
    Calls Try.prog 96 #[v] w fun e w' => MadeInts w (sortD zs) e w' := by
  obtain ⟨ii, hii, ii0, ii1, ii2⟩ := info_parts Try.infoInt
  obtain ⟨a, cap, rfl, hl, hc⟩ := h
  have HC := hid hc
  clear hc
  go_enter Try.func96, Try.ntmps96
  go_wp2_with fail
  go_loopw [3, 10] (fun o y wr => ∃ k : Nat, k ≤ zs.length ∧ y = .int .i64 k ∧ (k = 0 → o = .slice none 0 0) ∧ OwnInts w.heap.size wr.heap.size wr o (sortD (zs.take k)) ∧ Later w wr) (fun _ y _ => zs.length - (intOf y).toNat)
  case atStart => exact ⟨0, Nat.zero_le _, rfl, fun _ => rfl, ⟨World.ownsRow_nil _ _ _ _, fun b hb => by simp [Value.ownBlock] at hb⟩, Later.refl w⟩
  case round =>
    obtain ⟨k, hk, rfl, hnil, hO, hL⟩ := hrel
    by_cases hlt : k < zs.length
    · obtain ⟨ad, rfl, hcell⟩ := HC.out k hlt
      simp only [getD_at zs k hlt] at hcell
      have hcell2 := hL.cell hcell
      have HS := hid (sortD_take zs k hlt)
      obtain ⟨x, hx⟩ : ∃ x, zs[k] = x := ⟨_, rfl⟩
      rw [hx] at hcell2 HS
      have hSl : (sortD (zs.take k)).length = k := by rw [sortD_len, List.length_take]; omega
      obtain ⟨S, hS⟩ : ∃ S, sortD (zs.take k) = S := ⟨_, rfl⟩
      rw [hS] at HS hO hSl
      have HL := hid hL
      have HO := hid hO
      clear hcell hx hL
      by_cases hk0 : k = 0
      · subst hk0
        have hS0 : S = [] := List.eq_nil_of_length_eq_zero hSl
        subst hS0
        obtain rfl := hnil rfl
        rw [show ad.add 0 = ad by simp [Addr.add]] at hcell2
        clear hS hSl hO hnil
        go_wp2_with fail
        go_loopw [6] (fun j wj => j = .int .i64 0 ∧ wj = wr) (fun _ _ => 0)
        case atStart => exact ⟨rfl, rfl⟩
        case round =>
          obtain ⟨rfl, rfl⟩ := hrel
          go_wp2_with fail
          refine (l1OwnN_any 0 wr).mono ?_
          rintro e w2 ⟨v2, rfl, ho2, hL2⟩
          have HOA := hid (ho2.1.alloc (.cells #[Value.int .i64 x] 3))
          have HLT2 := hid ho2.1.lt
          have HLA := hid (hL2.trans (Later.alloc w2 (.cells #[Value.int .i64 x] 3)))
          clear hL2 ho2
          go_wp2_with (at_builtin; refine wpList_append_own_at _ (by rfl) _ _ _ (by rfl) wr.heap.size 3 ii (.int .i64 0) 1 8 Try.underlying24 hii ii0 ii1 ii2 rfl (by omega) v2 0 [] (by rfl) (by exact HOA.out) ⟨w2.heap.size, 0, none⟩ 1 1 [.int .i64 x] (by rfl) (by simp) (cell_one_new _ _ _) (fun u hu => by first | (obtain ⟨y, _, rfl⟩ := List.mem_map.1 hu; rfl) | (simp at hu; subst hu; rfl)) (by unfold maxLen; omega) (by omega) HLA.out.size ?_)
          intro v4 w4 hown4 hgrow4 _ _
          have HO4 := hid (OwnInts.ofH (zs := insD [] x) hown4 (by rfl))
          have HL4 := hid (show Later w w4 from (HL.out.trans HLA.out).grown hgrow4 (HL.out.trans HLA.out).size (fun b hb => Nat.le_trans HL.out.size (HLT2.out b hb).1))
          have HOW4 := hid hown4
          clear hown4 hgrow4
          go_wp2_with (at_builtin; refine wpList_append_own_none (by rfl) _ _ _ (by rfl) wr.heap.size 3 ii 1 Try.underlying24 hii v4 _ _ (by rfl) HOW4.out (by rfl) ?_)
          go_roundw
          case rel => exact ⟨1, hlt, by go_num, fun h => absurd h (by omega), by rw [HS.out]; exact HO4.out.wide HL.out.size (Nat.le_refl _), HL4.out⟩
          case measure => simp [intOf]; omega
      · obtain ⟨a2, c, rfl, hkc, _, _, hcs⟩ := ownsRow_shape hO.1
        obtain ⟨g, rfl, _⟩ := hcs 0 (by omega)
        have HSI := hid hO.ints
        have HSL := hid hSl
        rw [hSl] at hkc HSI ⊢
        have hkz : (k : Int) < (zs.length : Int) := by omega
        have hk4 : k ≤ 4 := by omega
        clear hS hSl hO hnil hcs
        go_wp2_with fail
        go_loopw [6] (fun j wj => ∃ q : Nat, q ≤ cntGe x S ∧ j = .int .i64 q ∧ wj = wr) (fun j _ => k - (intOf j).toNat)
        case atStart => exact ⟨0, Nat.zero_le _, rfl, rfl⟩
        case round =>
          obtain ⟨q, hq, rfl, rfl⟩ := hrel
          have hcl := cntGe_le x S
          rw [HSL.out] at hcl
          have hqk : q ≤ k := by omega
          by_cases hlq : q < cntGe x S
          · have hqk2 : q < k := by omega
            have hy := cntGe_lt x S q hlq
            obtain ⟨_, _, e1, _, hcc⟩ := HSI.out
            simp only [Value.slice.injEq] at e1
            obtain ⟨rfl, e1n, rfl⟩ := e1
            obtain ⟨ad', e2, hcy⟩ := hcc q (by have := HSL.out; omega)
            simp only [Option.some.injEq] at e2
            subst e2
            rw [addr_add0] at hcy
            obtain ⟨y, hyy⟩ : ∃ y, S.getD q 0 = y := ⟨_, rfl⟩
            rw [hyy] at hy hcy
            clear hcc e1n hyy hcl
            go_wp2_with fail
            go_roundw
            case rel => exact ⟨q + 1, hlq, by go_num, by first | rfl | trivial⟩
            case measure => simp [intOf]; omega
          · have hqe : q = cntGe x S := by omega
            have HQE := hid hqe
            have hbr : (q < k ∧ ∃ y, wr.cell? ⟨g, q, none⟩ = some (.int .i64 y) ∧ y < x) ∨ q = k := by
              by_cases h1 : q < k
              · refine .inl ⟨h1, S.getD q 0, ?_, ?_⟩
                · obtain ⟨_, _, e1, _, hcc⟩ := HSI.out
                  simp only [Value.slice.injEq] at e1
                  obtain ⟨rfl, e1n, rfl⟩ := e1
                  obtain ⟨ad', e2, hcy⟩ := hcc q (by have := HSL.out; omega)
                  simp only [Option.some.injEq] at e2
                  subst e2
                  rw [addr_add0] at hcy
                  exact hcy
                · have := cntGe_at x S (by rw [← hqe, HSL.out]; exact h1)
                  rw [← hqe] at this
                  exact this
              · exact .inr (by omega)
            have HQK := hid hqk
            have hqc : (q : Int) ≤ (c : Int) := by omega
            have hqkI : (q : Int) ≤ (k : Int) := by omega
            have hkcI : (k : Int) ≤ (c : Int) := by omega
            have HTL := hid (show (S.take q).length = q by rw [List.length_take, HSL.out]; omega)
            have HDL := hid (show (S.drop q).length = k - q by rw [List.length_drop, HSL.out])
            have HTK := hid (HSI.out.takesH q hqk)
            have HNW := hid HSI.out.newsH
            clear hqe hcl hlq hq
            rcases hbr with ⟨hqk2, y, hcy, hyx⟩ | hqk2
            · go_wp2_with fail
              refine (l1OwnH_any ⟨g, 0, none⟩ q c (S.take q) _ HTL.out (by omega) HTK.out).mono ?_
              rintro e w2 ⟨v2, rfl, ho2, hL2⟩
              have how2 := ho2.1
              rw [HTL.out] at how2
              obtain ⟨XS, hXS⟩ : ∃ XS, (S.take q).map (Value.int .i64) = XS := ⟨_, rfl⟩
              rw [hXS] at how2
              have HXS := hid hXS
              have hXl : XS.length = q := by rw [← hXS, List.length_map, HTL.out]
              clear hXS hXl
              have HOA := hid (how2.alloc (.cells #[Value.int .i64 x] 3))
              have HLT2 := hid how2.lt
              have HLA := hid (hL2.trans (Later.alloc w2 (.cells #[Value.int .i64 x] 3)))
              clear hL2 ho2 how2
              go_wp2_with (at_builtin; refine wpList_append_own_at _ (by rfl) _ _ _ (by rfl) wr.heap.size 3 ii (.int .i64 0) 1 8 Try.underlying24 hii ii0 ii1 ii2 rfl (by omega) v2 q XS (by rfl) (by exact HOA.out) ⟨w2.heap.size, 0, none⟩ 1 1 [.int .i64 x] (by rfl) (by simp) (cell_one_new _ _ _) (fun u hu => by first | (obtain ⟨y, _, rfl⟩ := List.mem_map.1 hu; rfl) | (simp at hu; subst hu; rfl)) (by unfold maxLen; omega) (by omega) HLA.out.size ?_)
              intro v4 w4 hown4 hgrow4 _ _
              have HLA4 := hid (show Later wr w4 from HLA.out.grown hgrow4 HLA.out.size (fun b hb => (HLT2.out b hb).1))
              have HL4 := hid (HL.out.trans HLA4.out)
              have HOW4 := hid hown4
              clear hown4 hgrow4 HOA HLA HLT2
              by_cases hcq : c = q
              · have HN4 : Hid (∀ t u, ((S.drop q).map (Value.int .i64))[t]? = some u → w4.cell? ((⟨g, 0, none⟩ : Addr).add t) = some u) := hid (fun t u ht => by rw [List.getElem?_eq_none (by rw [List.length_map, HDL.out]; omega)] at ht; cases ht)
                go_wp2_with (at_builtin; refine wpList_append_own_at _ (by rfl) _ _ _ (by rfl) wr.heap.size 3 ii (.int .i64 0) 1 8 Try.underlying24 hii ii0 ii1 ii2 rfl (by omega) v4 (q + 1) (XS ++ [.int .i64 x]) (by rfl) (by exact HOW4.out) ⟨g, 0, none⟩ (k - q) 0 ((S.drop q).map (Value.int .i64)) (by rfl) (by rw [List.length_map, HDL.out]; omega) (fun t u ht => HN4.out t u ht) (fun u hu => by first | (obtain ⟨y, _, rfl⟩ := List.mem_map.1 hu; rfl) | (simp at hu; subst hu; rfl)) (by unfold maxLen; omega) (by omega) HLA4.out.size ?_)
                intro v5 w5 hown5 hgrow5 _ _
                have HO5 := hid (OwnInts.ofH (zs := insD S x) hown5 (by unfold insD; rw [← HQE.out, List.map_append, List.map_cons, HXS.out]; simp))
                have HL5 := hid (show Later w w5 from HL4.out.grown hgrow5 HL4.out.size (fun b hb => Nat.le_trans HL.out.size (HOW4.out.lt b hb).1))
                clear hown5 hgrow5
                go_wp2_with fail
                go_roundw
                case rel => exact ⟨k + 1, hlt, by go_num, fun h => absurd h (by omega), by rw [HS.out]; exact HO5.out.wide HL.out.size (Nat.le_refl _), HL5.out⟩
                case measure => simp [intOf]; omega
              · have HN4 : Hid (∀ t u, ((S.drop q).map (Value.int .i64))[t]? = some u → w4.cell? ((⟨g, q, none⟩ : Addr).add t) = some u) := hid (fun t u ht => by
                  have h1 : (S.map (Value.int .i64))[q + t]? = some u := by rw [← ht]; simp
                  have h2 := HLA4.out.cell (HNW.out (q + t) u h1)
                  rw [addr_add0] at h2
                  rw [← h2]
                  congr 1
                  unfold Addr.add
                  by_cases h0 : t = 0 <;> simp [h0])
                go_wp2_with (at_builtin; refine wpList_append_own_at _ (by rfl) _ _ _ (by rfl) wr.heap.size 3 ii (.int .i64 0) 1 8 Try.underlying24 hii ii0 ii1 ii2 rfl (by omega) v4 (q + 1) (XS ++ [.int .i64 x]) (by rfl) (by exact HOW4.out) ⟨g, q, none⟩ (k - q) (c - q) ((S.drop q).map (Value.int .i64)) (by rfl) (by rw [List.length_map, HDL.out]; omega) (fun t u ht => HN4.out t u ht) (fun u hu => by first | (obtain ⟨y, _, rfl⟩ := List.mem_map.1 hu; rfl) | (simp at hu; subst hu; rfl)) (by unfold maxLen; omega) (by omega) HLA4.out.size ?_)
                intro v5 w5 hown5 hgrow5 _ _
                have HO5 := hid (OwnInts.ofH (zs := insD S x) hown5 (by unfold insD; rw [← HQE.out, List.map_append, List.map_cons, HXS.out]; simp))
                have HL5 := hid (show Later w w5 from HL4.out.grown hgrow5 HL4.out.size (fun b hb => Nat.le_trans HL.out.size (HOW4.out.lt b hb).1))
                clear hown5 hgrow5
                go_wp2_with fail
                go_roundw
                case rel => exact ⟨k + 1, hlt, by go_num, fun h => absurd h (by omega), by rw [HS.out]; exact HO5.out.wide HL.out.size (Nat.le_refl _), HL5.out⟩
                case measure => simp [intOf]; omega
            · have HQK2 := hid hqk2
              have hqk3 : ¬ (q : Int) < (k : Int) := by omega
              have hqk4 : ¬ q < k := by omega
              clear hqk2
              go_wp2_with fail
              refine (l1OwnH_any ⟨g, 0, none⟩ q c (S.take q) _ HTL.out (by omega) HTK.out).mono ?_
              rintro e w2 ⟨v2, rfl, ho2, hL2⟩
              have how2 := ho2.1
              rw [HTL.out] at how2
              obtain ⟨XS, hXS⟩ : ∃ XS, (S.take q).map (Value.int .i64) = XS := ⟨_, rfl⟩
              rw [hXS] at how2
              have HXS := hid hXS
              have hXl : XS.length = q := by rw [← hXS, List.length_map, HTL.out]
              clear hXS hXl
              have HOA := hid (how2.alloc (.cells #[Value.int .i64 x] 3))
              have HLT2 := hid how2.lt
              have HLA := hid (hL2.trans (Later.alloc w2 (.cells #[Value.int .i64 x] 3)))
              clear hL2 ho2 how2
              go_wp2_with (at_builtin; refine wpList_append_own_at _ (by rfl) _ _ _ (by rfl) wr.heap.size 3 ii (.int .i64 0) 1 8 Try.underlying24 hii ii0 ii1 ii2 rfl (by omega) v2 q XS (by rfl) (by exact HOA.out) ⟨w2.heap.size, 0, none⟩ 1 1 [.int .i64 x] (by rfl) (by simp) (cell_one_new _ _ _) (fun u hu => by first | (obtain ⟨y, _, rfl⟩ := List.mem_map.1 hu; rfl) | (simp at hu; subst hu; rfl)) (by unfold maxLen; omega) (by omega) HLA.out.size ?_)
              intro v4 w4 hown4 hgrow4 _ _
              have HLA4 := hid (show Later wr w4 from HLA.out.grown hgrow4 HLA.out.size (fun b hb => (HLT2.out b hb).1))
              have HL4 := hid (HL.out.trans HLA4.out)
              have HOW4 := hid hown4
              clear hown4 hgrow4 HOA HLA HLT2
              by_cases hcq : c = q
              · have HN4 : Hid (∀ t u, ((S.drop q).map (Value.int .i64))[t]? = some u → w4.cell? ((⟨g, 0, none⟩ : Addr).add t) = some u) := hid (fun t u ht => by rw [List.getElem?_eq_none (by rw [List.length_map, HDL.out]; omega)] at ht; cases ht)
                go_wp2_with (at_builtin; refine wpList_append_own_at _ (by rfl) _ _ _ (by rfl) wr.heap.size 3 ii (.int .i64 0) 1 8 Try.underlying24 hii ii0 ii1 ii2 rfl (by omega) v4 (q + 1) (XS ++ [.int .i64 x]) (by rfl) (by exact HOW4.out) ⟨g, 0, none⟩ (k - q) 0 ((S.drop q).map (Value.int .i64)) (by rfl) (by rw [List.length_map, HDL.out]; omega) (fun t u ht => HN4.out t u ht) (fun u hu => by first | (obtain ⟨y, _, rfl⟩ := List.mem_map.1 hu; rfl) | (simp at hu; subst hu; rfl)) (by unfold maxLen; omega) (by omega) HLA4.out.size ?_)
                intro v5 w5 hown5 hgrow5 _ _
                have HO5 := hid (OwnInts.ofH (zs := insD S x) hown5 (by unfold insD; rw [← HQE.out, List.map_append, List.map_cons, HXS.out]; simp))
                have HL5 := hid (show Later w w5 from HL4.out.grown hgrow5 HL4.out.size (fun b hb => Nat.le_trans HL.out.size (HOW4.out.lt b hb).1))
                clear hown5 hgrow5
                go_wp2_with fail
                go_roundw
                case rel => exact ⟨k + 1, hlt, by go_num, fun h => absurd h (by omega), by rw [HS.out]; exact HO5.out.wide HL.out.size (Nat.le_refl _), HL5.out⟩
                case measure => simp [intOf]; omega
              · have HN4 : Hid (∀ t u, ((S.drop q).map (Value.int .i64))[t]? = some u → w4.cell? ((⟨g, q, none⟩ : Addr).add t) = some u) := hid (fun t u ht => by
                  have h1 : (S.map (Value.int .i64))[q + t]? = some u := by rw [← ht]; simp
                  have h2 := HLA4.out.cell (HNW.out (q + t) u h1)
                  rw [addr_add0] at h2
                  rw [← h2]
                  congr 1
                  unfold Addr.add
                  by_cases h0 : t = 0 <;> simp [h0])
                go_wp2_with (at_builtin; refine wpList_append_own_at _ (by rfl) _ _ _ (by rfl) wr.heap.size 3 ii (.int .i64 0) 1 8 Try.underlying24 hii ii0 ii1 ii2 rfl (by omega) v4 (q + 1) (XS ++ [.int .i64 x]) (by rfl) (by exact HOW4.out) ⟨g, q, none⟩ (k - q) (c - q) ((S.drop q).map (Value.int .i64)) (by rfl) (by rw [List.length_map, HDL.out]; omega) (fun t u ht => HN4.out t u ht) (fun u hu => by first | (obtain ⟨y, _, rfl⟩ := List.mem_map.1 hu; rfl) | (simp at hu; subst hu; rfl)) (by unfold maxLen; omega) (by omega) HLA4.out.size ?_)
                intro v5 w5 hown5 hgrow5 _ _
                have HO5 := hid (OwnInts.ofH (zs := insD S x) hown5 (by unfold insD; rw [← HQE.out, List.map_append, List.map_cons, HXS.out]; simp))
                have HL5 := hid (show Later w w5 from HL4.out.grown hgrow5 HL4.out.size (fun b hb => Nat.le_trans HL.out.size (HOW4.out.lt b hb).1))
                clear hown5 hgrow5
                go_wp2_with fail
                go_roundw
                case rel => exact ⟨k + 1, hlt, by go_num, fun h => absurd h (by omega), by rw [HS.out]; exact HO5.out.wide HL.out.size (Nat.le_refl _), HL5.out⟩
                case measure => simp [intOf]; omega
    · go_wp2_with fail
      go_ret
      rw [take_all zs k (by omega)] at hO
      exact ⟨_, rfl, hO, hL⟩


theorem OwnInts.storeAt {lo hi : Nat} {w : World} {g c : Nat} {zs : List Int} (h : OwnInts lo hi w (.slice (some ⟨g, 0, none⟩) zs.length c) zs) (k : Nat) (x : Int) :
    OwnInts lo hi (w.setCell ⟨g, k, none⟩ (.int .i64 x)) (.slice (some ⟨g, 0, none⟩) zs.length c) (zs.set k x) := by
  have h1 := (h.1.stored k (.int .i64 x)).1
  refine ⟨?_, h.2⟩
  rw [List.length_set, List.map_set]
  exact h1
theorem OwnInts.nothing0 (lo hi : Nat) (w : World) : OwnInts lo hi w (.slice none 0 0) [] := ⟨World.ownsRow_nil _ _ _ _, fun b hb => by simp [Value.ownBlock] at hb⟩

set_option maxRecDepth 20000 in
set_option maxHeartbeats 2000000 in
theorem huJump_any (zs : List Int) (a b : Int) (i : Nat) (v : Value) (w : World) (hi : i < zs.length) (hS : Sol zs a b) (h : IntsC w v zs) :
    Calls Try.prog 99 #[v, .int .i64 a, .int .i64 i] w fun e w' => IntsAns w (jumpL a zs i) e w' := by
  obtain ⟨ad, c, rfl, hnc⟩ := h.addr (by omega)
  have H := hid h.1
  have HS := hid hS
  have HI := hid hi
  have HNC := hid hnc
  have hlen := hS.hl
  have HLEN := hid hlen
  obtain ⟨o, ho⟩ : ∃ o, othL a zs i = o := ⟨_, rfl⟩
  have HO := hid ho
  have hob := hS.oth_bd i hi
  rw [ho] at hob
  obtain ⟨ob1, ob2⟩ := hob
  clear h hS hlen
  cases hw : within 1 100000 o
  · have HW := hid hw
    have HJ := hid (show jumpL a zs i = none by unfold jumpL; rw [ho, hw]; rfl)
    clear hw ho hi hnc
    go_enter Try.func99, Try.ntmps99
    go_wp2_with fail
    refine (huOther_sol zs a b i ad c _ HI.out HNC.out HS.out H.out).mono ?_
    rintro e w1 ⟨rfl, hL⟩
    rw [HO.out]
    have HL := hid hL
    clear hL
    go_wp2_with fail
    refine (l1In_as _ _ _ _ _ HW.out).mono ?_
    rintro e w' ⟨rfl, rfl⟩
    go_wp2_with fail
    go_ret2
    rw [HJ.out]
    exact ⟨_, rfl, OwnInts.nothing0 _ _ _, HL.out⟩
  · have HW := hid hw
    have HJ := hid (show jumpL a zs i = some (sortD (zs.set i o)) by unfold jumpL; rw [ho, hw]; rfl)
    have hiI : (i : Int) < (zs.length : Int) := by omega
    clear hw ho hnc
    go_enter Try.func99, Try.ntmps99
    go_wp2_with fail
    refine (huOther_sol zs a b i ad c _ HI.out HNC.out HS.out H.out).mono ?_
    rintro e w1 ⟨rfl, hL⟩
    rw [HO.out]
    have HL := hid hL
    have H1 := hid (H.out.later hL)
    clear hL
    go_wp2_with fail
    refine (l1In_as _ _ _ _ _ HW.out).mono ?_
    rintro e w' ⟨rfl, rfl⟩
    go_wp2_with fail
    refine (l1OwnH_any ad zs.length c zs _ rfl (by have := HLEN.out; omega) H1.out).mono ?_
    rintro e w2 ⟨v2, rfl, ho2, hL2⟩
    obtain ⟨a2, c2, rfl, hkc, _, hxl, hcs⟩ := ownsRow_shape ho2.1
    obtain ⟨g, rfl, hcell⟩ := hcs i hi
    have hfr := ho2.1.frozenAt i
    have hgl := (ho2.1.lt g rfl).1
    have HO2 := hid ho2
    have HL2 := hid (HL.out.trans hL2)
    have hg2 : w.heap.size ≤ g := Nat.le_trans HL.out.size hgl
    rw [show (zs.map (Value.int .i64))[i]? = some (.int .i64 (zs.getD i 0)) by simp [hi]] at hcell
    clear hcs hL2 ho2 hxl hi
    go_wp2_with fail
    have HO3 := hid (HO2.out.storeAt i o)
    have HL3 := hid (show Later w (w2.setCell ⟨g, i, none⟩ (.int .i64 o)) from HL2.out.setCell hg2 _)
    generalize w2.setCell ⟨g, i, none⟩ (.int .i64 o) = w3 at HO3 HL3 ⊢
    clear hcell hfr
    refine (huSort_any _ (zs.set i o) w3 (by rw [List.length_set]; have := HLEN.out; omega) HO3.out.ints).mono ?_
    rintro e w4 ⟨v4, rfl, ho4, hL4⟩
    have HO4 := hid (ho4.wide HL3.out.size (Nat.le_refl _))
    have HL4 := hid (HL3.out.trans hL4)
    clear ho4 hL4
    go_wp2_with fail
    go_ret2
    rw [HJ.out]
    exact ⟨_, rfl, HO4.out, HL4.out⟩

def jumpAns (zs : List Int) (a b i : Int) : Option (List Int) := if (givenB a b && solB zs a b) = true ∧ within 0 ((zs.length : Int) - 1) i = true then jumpL a zs i.toNat else none
def climbL (a : Int) : List Int → List Int → Option (List Int)
  | zs, [] => some zs
  | zs, i :: is => match jumpL a zs i.toNat with
    | none => none
    | some ys => climbL a ys is
def wordB (word : List Int) (n : Nat) : Bool := decide (word.length ≤ 40) && word.all (within 0 ((n : Int) - 1))
def climbAns (zs : List Int) (a b : Int) (word : List Int) : Option (List Int) := if (givenB a b && solB zs a b) = true ∧ wordB word zs.length = true then climbL a zs word else none
theorem climbL_none {a : Int} {zs : List Int} {i : Int} {is : List Int} (h : jumpL a zs i.toNat = none) : climbL a zs (i :: is) = none := by simp [climbL, h]
theorem climbL_some {a : Int} {zs ys : List Int} {i : Int} {is : List Int} (h : jumpL a zs i.toNat = some ys) : climbL a zs (i :: is) = climbL a ys is := by simp [climbL, h]
theorem all_at {p : Int → Bool} {zs : List Int} (h : zs.all p = true) (k : Nat) (hk : k < zs.length) : p zs[k] = true := List.all_eq_true.1 h _ (List.getElem_mem hk)
theorem drop_consW (zs : List Int) (k : Nat) (h : k < zs.length) : zs.drop k = zs[k] :: zs.drop (k + 1) := List.drop_eq_getElem_cons h

end Go.Proofs.Ytoaopmafokoaoaa
