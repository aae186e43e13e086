/- Four curvatures: sorting, RootQuad (the model). -/
import Derived.Test.YtoaopmafokoaoabQdOPL
import Derived.Test.YtoaopmafokoaoabHuUVW
namespace Go.Proofs.Ytoaopmafokoaoab
open Go.RowKit

abbrev UpQ (zs : List Int) : Prop := zs.Pairwise fun a b => a ≤ b
def cntUp (x : Int) (out : List Int) : Nat := (out.takeWhile fun y => decide (y ≤ x)).length
def insU (out : List Int) (x : Int) : List Int := out.take (cntUp x out) ++ x :: out.drop (cntUp x out)
def sortU (zs : List Int) : List Int := zs.foldl insU []
theorem take_cntUp (x : Int) (out : List Int) : out.take (cntUp x out) = out.takeWhile fun y => decide (y ≤ x) := by
  unfold cntUp
  induction out with
  | nil => rfl
  | cons y ys ih => simp only [List.takeWhile_cons]; split <;> simp [ih]
theorem drop_cntUp (x : Int) (out : List Int) : out.drop (cntUp x out) = out.dropWhile fun y => decide (y ≤ x) := by
  unfold cntUp
  induction out with
  | nil => rfl
  | cons y ys ih => simp only [List.takeWhile_cons, List.dropWhile_cons]; split <;> simp [ih]
theorem insU_perm (out : List Int) (x : Int) : (insU out x).Perm (x :: out) := by
  unfold insU
  refine List.perm_middle.trans ?_
  rw [List.take_append_drop]
theorem mem_takeWhileQ {p : Int → Bool} {zs : List Int} {y : Int} (h : y ∈ zs.takeWhile p) : p y = true := by
  induction zs with
  | nil => simp at h
  | cons z zs ih =>
    simp only [List.takeWhile_cons] at h
    split at h
    · rcases List.mem_cons.1 h with rfl | h
      · assumption
      · exact ih h
    · simp at h
theorem insU_up {out : List Int} (x : Int) (h : UpQ out) : UpQ (insU out x) := by
  unfold insU
  have e : out.take (cntUp x out) ++ out.drop (cntUp x out) = out := List.take_append_drop _ _
  have h2 : UpQ (out.take (cntUp x out) ++ out.drop (cntUp x out)) := by rw [e]; exact h
  rw [UpQ, List.pairwise_append] at h2
  obtain ⟨p1, p2, p3⟩ := h2
  have q1 : ∀ y ∈ out.take (cntUp x out), y ≤ x := by
    intro y hy; rw [take_cntUp] at hy; simpa using mem_takeWhileQ hy
  have q2 : ∀ y ∈ out.drop (cntUp x out), x ≤ y := by
    intro y hy
    rw [drop_cntUp] at hy p2
    clear q1 p3 p1 e
    generalize hd : out.dropWhile (fun y => decide (y ≤ x)) = ds at hy p2
    cases ds with
    | nil => simp at hy
    | cons d ds =>
      have h1 : ¬ d ≤ x := by
        have := List.head_dropWhile_not (p := fun y => decide (y ≤ x)) (l := out) (by rw [hd]; simp)
        simp only [hd, List.head_cons] at this
        simpa using this
      rcases List.mem_cons.1 hy with rfl | hy
      · omega
      · have := (List.pairwise_cons.1 p2).1 y hy; omega
  rw [UpQ, List.pairwise_append]
  refine ⟨p1, List.pairwise_cons.2 ⟨fun y hy => q2 y hy, p2⟩, ?_⟩
  intro a ha b hb
  rcases List.mem_cons.1 hb with rfl | hb
  · exact q1 a ha
  · exact p3 a ha b hb
theorem foldl_insU (zs : List Int) : ∀ out, UpQ out → UpQ (zs.foldl insU out) ∧ (zs.foldl insU out).Perm (zs ++ out) := by
  induction zs with
  | nil => intro out h; exact ⟨h, List.Perm.refl _⟩
  | cons z zs ih =>
    intro out h
    obtain ⟨h1, h2⟩ := ih _ (insU_up z h)
    refine ⟨h1, h2.trans ?_⟩
    refine (List.Perm.append_left zs (insU_perm out z)).trans ?_
    exact List.perm_middle
theorem sortU_up (zs : List Int) : UpQ (sortU zs) := (foldl_insU zs [] List.Pairwise.nil).1
theorem sortU_perm (zs : List Int) : (sortU zs).Perm zs := by have := (foldl_insU zs [] List.Pairwise.nil).2; simpa [sortU] using this
theorem up_unique {xs ys : List Int} (h1 : UpQ xs) (h2 : UpQ ys) (h : xs.Perm ys) : xs = ys :=
  List.Perm.eq_of_pairwise (le := fun a b => a ≤ b) (fun a b _ _ h1 h2 => by omega) h1 h2 h
theorem sortU_of {xs ys : List Int} (h1 : UpQ xs) (h : xs.Perm ys) : sortU ys = xs :=
  up_unique (sortU_up ys) h1 ((sortU_perm ys).trans h.symm)
theorem sortU_len (zs : List Int) : (sortU zs).length = zs.length := (sortU_perm zs).length_eq
theorem sortU_snoc (zs : List Int) (x : Int) : sortU (zs ++ [x]) = insU (sortU zs) x := by simp [sortU]
theorem cntUp_le (x : Int) (S : List Int) : cntUp x S ≤ S.length := by
  unfold cntUp
  induction S with
  | nil => simp
  | cons y ys ih => simp only [List.takeWhile_cons]; split <;> simp_all
theorem cntUp_lt (x : Int) (S : List Int) : ∀ j, j < cntUp x S → S.getD j 0 ≤ x := by
  unfold cntUp
  induction S with
  | nil => intro j hj; simp at hj
  | cons y ys ih =>
    intro j hj
    simp only [List.takeWhile_cons] at hj
    split at hj
    · rename_i hy
      cases j with
      | zero => simpa using hy
      | succ j => have := ih j (by simpa using hj); simpa using this
    · simp at hj
theorem cntUp_at (x : Int) (S : List Int) : cntUp x S < S.length → x < S.getD (cntUp x S) 0 := by
  unfold cntUp
  induction S with
  | nil => intro h; simp at h
  | cons y ys ih =>
    intro h
    simp only [List.takeWhile_cons] at h ⊢
    split at h
    · rename_i hy
      rw [if_pos hy]
      have := ih (by simpa using h)
      simpa using this
    · rename_i hy
      rw [if_neg hy]
      simp at hy ⊢
      omega
theorem sortU_take (zs : List Int) (k : Nat) (hk : k < zs.length) : sortU (zs.take (k + 1)) = insU (sortU (zs.take k)) zs[k] := by rw [take_snoc zs k hk, sortU_snoc]

set_option maxRecDepth 20000 in
set_option maxHeartbeats 4000000 in
theorem apSorted_any (v : Value) (zs : List Int) (w : World) (hn : zs.length ≤ 4) (h : Ints w v zs) :
    Calls Try.prog 58 #[v] w fun e w' => MadeInts w (sortU zs) e w' := by
  obtain ⟨ii, hii, ii0, ii1, ii2⟩ := info_parts Try.infoInt
  obtain ⟨a, cap, rfl, hl, hc⟩ := h
  have HC := hid hc
  clear hc
  go_enter Try.func58, Try.ntmps58
  go_wp2_with fail
  go_loopw [3, 10] (fun o y wr => ∃ k : Nat, k ≤ zs.length ∧ y = .int .i64 k ∧ (k = 0 → o = .slice none 0 0) ∧ OwnInts w.heap.size wr.heap.size wr o (sortU (zs.take k)) ∧ Later w wr) (fun _ y _ => zs.length - (intOf y).toNat)
  case atStart => exact ⟨0, Nat.zero_le _, rfl, fun _ => rfl, ⟨World.ownsRow_nil _ _ _ _, fun b hb => by simp [Value.ownBlock] at hb⟩, Later.refl w⟩
  case round =>
    obtain ⟨k, hk, rfl, hnil, hO, hL⟩ := hrel
    by_cases hlt : k < zs.length
    · obtain ⟨ad, rfl, hcell⟩ := HC.out k hlt
      simp only [getD_at zs k hlt] at hcell
      have hcell2 := hL.cell hcell
      have HS := hid (sortU_take zs k hlt)
      obtain ⟨x, hx⟩ : ∃ x, zs[k] = x := ⟨_, rfl⟩
      rw [hx] at hcell2 HS
      have hSl : (sortU (zs.take k)).length = k := by rw [sortU_len, List.length_take]; omega
      obtain ⟨S, hS⟩ : ∃ S, sortU (zs.take k) = S := ⟨_, rfl⟩
      rw [hS] at HS hO hSl
      have HL := hid hL
      have HO := hid hO
      clear hcell hx hL
      by_cases hk0 : k = 0
      · subst hk0
        have hS0 : S = [] := List.eq_nil_of_length_eq_zero hSl
        subst hS0
        obtain rfl := hnil rfl
        rw [show ad.add 0 = ad by simp [Addr.add]] at hcell2
        clear hS hSl hO hnil
        go_wp2_with fail
        go_loopw [6] (fun j wj => j = .int .i64 0 ∧ wj = wr) (fun _ _ => 0)
        case atStart => exact ⟨rfl, rfl⟩
        case round =>
          obtain ⟨rfl, rfl⟩ := hrel
          go_wp2_with fail
          refine (l1OwnN_any 0 wr).mono ?_
          rintro e w2 ⟨v2, rfl, ho2, hL2⟩
          have HOA := hid (ho2.1.alloc (.cells #[Value.int .i64 x] 3))
          have HLT2 := hid ho2.1.lt
          have HLA := hid (hL2.trans (Later.alloc w2 (.cells #[Value.int .i64 x] 3)))
          clear hL2 ho2
          go_wp2_with (at_builtin; refine wpList_append_own_at _ (by rfl) _ _ _ (by rfl) wr.heap.size 3 ii (.int .i64 0) 1 8 Try.underlying24 hii ii0 ii1 ii2 rfl (by omega) v2 0 [] (by rfl) (by exact HOA.out) ⟨w2.heap.size, 0, none⟩ 1 1 [.int .i64 x] (by rfl) (by simp) (cell_one_new _ _ _) (fun u hu => by first | (obtain ⟨y, _, rfl⟩ := List.mem_map.1 hu; rfl) | (simp at hu; subst hu; rfl)) (by unfold maxLen; omega) (by omega) HLA.out.size ?_)
          intro v4 w4 hown4 hgrow4 _ _
          have HO4 := hid (OwnInts.ofH (zs := insU [] x) hown4 (by rfl))
          have HL4 := hid (show Later w w4 from (HL.out.trans HLA.out).grown hgrow4 (HL.out.trans HLA.out).size (fun b hb => Nat.le_trans HL.out.size (HLT2.out b hb).1))
          have HOW4 := hid hown4
          clear hown4 hgrow4
          go_wp2_with (at_builtin; refine wpList_append_own_none (by rfl) _ _ _ (by rfl) wr.heap.size 3 ii 1 Try.underlying24 hii v4 _ _ (by rfl) HOW4.out (by rfl) ?_)
          go_roundw
          case rel => exact ⟨1, hlt, by go_num, fun h => absurd h (by omega), by rw [HS.out]; exact HO4.out.wide HL.out.size (Nat.le_refl _), HL4.out⟩
          case measure => simp [intOf]; omega
      · obtain ⟨a2, c, rfl, hkc, _, _, hcs⟩ := ownsRow_shape hO.1
        obtain ⟨g, rfl, _⟩ := hcs 0 (by omega)
        have HSI := hid hO.ints
        have HSL := hid hSl
        rw [hSl] at hkc HSI ⊢
        have hkz : (k : Int) < (zs.length : Int) := by omega
        have hk4 : k ≤ 4 := by omega
        clear hS hSl hO hnil hcs
        go_wp2_with fail
        go_loopw [6] (fun j wj => ∃ q : Nat, q ≤ cntUp x S ∧ j = .int .i64 q ∧ wj = wr) (fun j _ => k - (intOf j).toNat)
        case atStart => exact ⟨0, Nat.zero_le _, rfl, rfl⟩
        case round =>
          obtain ⟨q, hq, rfl, rfl⟩ := hrel
          have hcl := cntUp_le x S
          rw [HSL.out] at hcl
          have hqk : q ≤ k := by omega
          by_cases hlq : q < cntUp x S
          · have hqk2 : q < k := by omega
            have hy := cntUp_lt x S q hlq
            obtain ⟨_, _, e1, _, hcc⟩ := HSI.out
            simp only [Value.slice.injEq] at e1
            obtain ⟨rfl, e1n, rfl⟩ := e1
            obtain ⟨ad', e2, hcy⟩ := hcc q (by have := HSL.out; omega)
            simp only [Option.some.injEq] at e2
            subst e2
            rw [addr_add0] at hcy
            obtain ⟨y, hyy⟩ : ∃ y, S.getD q 0 = y := ⟨_, rfl⟩
            rw [hyy] at hy hcy
            clear hcc e1n hyy hcl
            go_wp2_with fail
            go_roundw
            case rel => exact ⟨q + 1, hlq, by go_num, by first | rfl | trivial⟩
            case measure => simp [intOf]; omega
          · have hqe : q = cntUp x S := by omega
            have HQE := hid hqe
            have hbr : (q < k ∧ ∃ y, wr.cell? ⟨g, q, none⟩ = some (.int .i64 y) ∧ x < y) ∨ q = k := by
              by_cases h1 : q < k
              · refine .inl ⟨h1, S.getD q 0, ?_, ?_⟩
                · obtain ⟨_, _, e1, _, hcc⟩ := HSI.out
                  simp only [Value.slice.injEq] at e1
                  obtain ⟨rfl, e1n, rfl⟩ := e1
                  obtain ⟨ad', e2, hcy⟩ := hcc q (by have := HSL.out; omega)
                  simp only [Option.some.injEq] at e2
                  subst e2
                  rw [addr_add0] at hcy
                  exact hcy
                · have := cntUp_at x S (by rw [← hqe, HSL.out]; exact h1)
                  rw [← hqe] at this
                  exact this
              · exact .inr (by omega)
            have HQK := hid hqk
            have hqc : (q : Int) ≤ (c : Int) := by omega
            have hqkI : (q : Int) ≤ (k : Int) := by omega
            have hkcI : (k : Int) ≤ (c : Int) := by omega
            have HTL := hid (show (S.take q).length = q by rw [List.length_take, HSL.out]; omega)
            have HDL := hid (show (S.drop q).length = k - q by rw [List.length_drop, HSL.out])
            have HTK := hid (HSI.out.takesH q hqk)
            have HNW := hid HSI.out.newsH
            clear hqe hcl hlq hq
            rcases hbr with ⟨hqk2, y, hcy, hyx⟩ | hqk2
            · go_wp2_with fail
              refine (l1OwnH_any ⟨g, 0, none⟩ q c (S.take q) _ HTL.out (by omega) HTK.out).mono ?_
              rintro e w2 ⟨v2, rfl, ho2, hL2⟩
              have how2 := ho2.1
              rw [HTL.out] at how2
              obtain ⟨XS, hXS⟩ : ∃ XS, (S.take q).map (Value.int .i64) = XS := ⟨_, rfl⟩
              rw [hXS] at how2
              have HXS := hid hXS
              have hXl : XS.length = q := by rw [← hXS, List.length_map, HTL.out]
              clear hXS hXl
              have HOA := hid (how2.alloc (.cells #[Value.int .i64 x] 3))
              have HLT2 := hid how2.lt
              have HLA := hid (hL2.trans (Later.alloc w2 (.cells #[Value.int .i64 x] 3)))
              clear hL2 ho2 how2
              go_wp2_with (at_builtin; refine wpList_append_own_at _ (by rfl) _ _ _ (by rfl) wr.heap.size 3 ii (.int .i64 0) 1 8 Try.underlying24 hii ii0 ii1 ii2 rfl (by omega) v2 q XS (by rfl) (by exact HOA.out) ⟨w2.heap.size, 0, none⟩ 1 1 [.int .i64 x] (by rfl) (by simp) (cell_one_new _ _ _) (fun u hu => by first | (obtain ⟨y, _, rfl⟩ := List.mem_map.1 hu; rfl) | (simp at hu; subst hu; rfl)) (by unfold maxLen; omega) (by omega) HLA.out.size ?_)
              intro v4 w4 hown4 hgrow4 _ _
              have HLA4 := hid (show Later wr w4 from HLA.out.grown hgrow4 HLA.out.size (fun b hb => (HLT2.out b hb).1))
              have HL4 := hid (HL.out.trans HLA4.out)
              have HOW4 := hid hown4
              clear hown4 hgrow4 HOA HLA HLT2
              by_cases hcq : c = q
              · have HN4 : Hid (∀ t u, ((S.drop q).map (Value.int .i64))[t]? = some u → w4.cell? ((⟨g, 0, none⟩ : Addr).add t) = some u) := hid (fun t u ht => by rw [List.getElem?_eq_none (by rw [List.length_map, HDL.out]; omega)] at ht; cases ht)
                go_wp2_with (at_builtin; refine wpList_append_own_at _ (by rfl) _ _ _ (by rfl) wr.heap.size 3 ii (.int .i64 0) 1 8 Try.underlying24 hii ii0 ii1 ii2 rfl (by omega) v4 (q + 1) (XS ++ [.int .i64 x]) (by rfl) (by exact HOW4.out) ⟨g, 0, none⟩ (k - q) 0 ((S.drop q).map (Value.int .i64)) (by rfl) (by rw [List.length_map, HDL.out]; omega) (fun t u ht => HN4.out t u ht) (fun u hu => by first | (obtain ⟨y, _, rfl⟩ := List.mem_map.1 hu; rfl) | (simp at hu; subst hu; rfl)) (by unfold maxLen; omega) (by omega) HLA4.out.size ?_)
                intro v5 w5 hown5 hgrow5 _ _
                have HO5 := hid (OwnInts.ofH (zs := insU S x) hown5 (by unfold insU; rw [← HQE.out, List.map_append, List.map_cons, HXS.out]; simp))
                have HL5 := hid (show Later w w5 from HL4.out.grown hgrow5 HL4.out.size (fun b hb => Nat.le_trans HL.out.size (HOW4.out.lt b hb).1))
                clear hown5 hgrow5
                go_wp2_with fail
                go_roundw
                case rel => exact ⟨k + 1, hlt, by go_num, fun h => absurd h (by omega), by rw [HS.out]; exact HO5.out.wide HL.out.size (Nat.le_refl _), HL5.out⟩
                case measure => simp [intOf]; omega
              · have HN4 : Hid (∀ t u, ((S.drop q).map (Value.int .i64))[t]? = some u → w4.cell? ((⟨g, q, none⟩ : Addr).add t) = some u) := hid (fun t u ht => by
                  have h1 : (S.map (Value.int .i64))[q + t]? = some u := by rw [← ht]; simp
                  have h2 := HLA4.out.cell (HNW.out (q + t) u h1)
                  rw [addr_add0] at h2
                  rw [← h2]
                  congr 1
                  unfold Addr.add
                  by_cases h0 : t = 0 <;> simp [h0])
                go_wp2_with (at_builtin; refine wpList_append_own_at _ (by rfl) _ _ _ (by rfl) wr.heap.size 3 ii (.int .i64 0) 1 8 Try.underlying24 hii ii0 ii1 ii2 rfl (by omega) v4 (q + 1) (XS ++ [.int .i64 x]) (by rfl) (by exact HOW4.out) ⟨g, q, none⟩ (k - q) (c - q) ((S.drop q).map (Value.int .i64)) (by rfl) (by rw [List.length_map, HDL.out]; omega) (fun t u ht => HN4.out t u ht) (fun u hu => by first | (obtain ⟨y, _, rfl⟩ := List.mem_map.1 hu; rfl) | (simp at hu; subst hu; rfl)) (by unfold maxLen; omega) (by omega) HLA4.out.size ?_)
                intro v5 w5 hown5 hgrow5 _ _
                have HO5 := hid (OwnInts.ofH (zs := insU S x) hown5 (by unfold insU; rw [← HQE.out, List.map_append, List.map_cons, HXS.out]; simp))
                have HL5 := hid (show Later w w5 from HL4.out.grown hgrow5 HL4.out.size (fun b hb => Nat.le_trans HL.out.size (HOW4.out.lt b hb).1))
                clear hown5 hgrow5
                go_wp2_with fail
                go_roundw
                case rel => exact ⟨k + 1, hlt, by go_num, fun h => absurd h (by omega), by rw [HS.out]; exact HO5.out.wide HL.out.size (Nat.le_refl _), HL5.out⟩
                case measure => simp [intOf]; omega
            · have HQK2 := hid hqk2
              have hqk3 : ¬ (q : Int) < (k : Int) := by omega
              have hqk4 : ¬ q < k := by omega
              clear hqk2
              go_wp2_with fail
              refine (l1OwnH_any ⟨g, 0, none⟩ q c (S.take q) _ HTL.out (by omega) HTK.out).mono ?_
              rintro e w2 ⟨v2, rfl, ho2, hL2⟩
              have how2 := ho2.1
              rw [HTL.out] at how2
              obtain ⟨XS, hXS⟩ : ∃ XS, (S.take q).map (Value.int .i64) = XS := ⟨_, rfl⟩
              rw [hXS] at how2
              have HXS := hid hXS
              have hXl : XS.length = q := by rw [← hXS, List.length_map, HTL.out]
              clear hXS hXl
              have HOA := hid (how2.alloc (.cells #[Value.int .i64 x] 3))
              have HLT2 := hid how2.lt
              have HLA := hid (hL2.trans (Later.alloc w2 (.cells #[Value.int .i64 x] 3)))
              clear hL2 ho2 how2
              go_wp2_with (at_builtin; refine wpList_append_own_at _ (by rfl) _ _ _ (by rfl) wr.heap.size 3 ii (.int .i64 0) 1 8 Try.underlying24 hii ii0 ii1 ii2 rfl (by omega) v2 q XS (by rfl) (by exact HOA.out) ⟨w2.heap.size, 0, none⟩ 1 1 [.int .i64 x] (by rfl) (by simp) (cell_one_new _ _ _) (fun u hu => by first | (obtain ⟨y, _, rfl⟩ := List.mem_map.1 hu; rfl) | (simp at hu; subst hu; rfl)) (by unfold maxLen; omega) (by omega) HLA.out.size ?_)
              intro v4 w4 hown4 hgrow4 _ _
              have HLA4 := hid (show Later wr w4 from HLA.out.grown hgrow4 HLA.out.size (fun b hb => (HLT2.out b hb).1))
              have HL4 := hid (HL.out.trans HLA4.out)
              have HOW4 := hid hown4
              clear hown4 hgrow4 HOA HLA HLT2
              by_cases hcq : c = q
              · have HN4 : Hid (∀ t u, ((S.drop q).map (Value.int .i64))[t]? = some u → w4.cell? ((⟨g, 0, none⟩ : Addr).add t) = some u) := hid (fun t u ht => by rw [List.getElem?_eq_none (by rw [List.length_map, HDL.out]; omega)] at ht; cases ht)
                go_wp2_with (at_builtin; refine wpList_append_own_at _ (by rfl) _ _ _ (by rfl) wr.heap.size 3 ii (.int .i64 0) 1 8 Try.underlying24 hii ii0 ii1 ii2 rfl (by omega) v4 (q + 1) (XS ++ [.int .i64 x]) (by rfl) (by exact HOW4.out) ⟨g, 0, none⟩ (k - q) 0 ((S.drop q).map (Value.int .i64)) (by rfl) (by rw [List.length_map, HDL.out]; omega) (fun t u ht => HN4.out t u ht) (fun u hu => by first | (obtain ⟨y, _, rfl⟩ := List.mem_map.1 hu; rfl) | (simp at hu; subst hu; rfl)) (by unfold maxLen; omega) (by omega) HLA4.out.size ?_)
                intro v5 w5 hown5 hgrow5 _ _
                have HO5 := hid (OwnInts.ofH (zs := insU S x) hown5 (by unfold insU; rw [← HQE.out, List.map_append, List.map_cons, HXS.out]; simp))
                have HL5 := hid (show Later w w5 from HL4.out.grown hgrow5 HL4.out.size (fun b hb => Nat.le_trans HL.out.size (HOW4.out.lt b hb).1))
                clear hown5 hgrow5
                go_wp2_with fail
                go_roundw
                case rel => exact ⟨k + 1, hlt, by go_num, fun h => absurd h (by omega), by rw [HS.out]; exact HO5.out.wide HL.out.size (Nat.le_refl _), HL5.out⟩
                case measure => simp [intOf]; omega
              · have HN4 : Hid (∀ t u, ((S.drop q).map (Value.int .i64))[t]? = some u → w4.cell? ((⟨g, q, none⟩ : Addr).add t) = some u) := hid (fun t u ht => by
                  have h1 : (S.map (Value.int .i64))[q + t]? = some u := by rw [← ht]; simp
                  have h2 := HLA4.out.cell (HNW.out (q + t) u h1)
                  rw [addr_add0] at h2
                  rw [← h2]
                  congr 1
                  unfold Addr.add
                  by_cases h0 : t = 0 <;> simp [h0])
                go_wp2_with (at_builtin; refine wpList_append_own_at _ (by rfl) _ _ _ (by rfl) wr.heap.size 3 ii (.int .i64 0) 1 8 Try.underlying24 hii ii0 ii1 ii2 rfl (by omega) v4 (q + 1) (XS ++ [.int .i64 x]) (by rfl) (by exact HOW4.out) ⟨g, q, none⟩ (k - q) (c - q) ((S.drop q).map (Value.int .i64)) (by rfl) (by rw [List.length_map, HDL.out]; omega) (fun t u ht => HN4.out t u ht) (fun u hu => by first | (obtain ⟨y, _, rfl⟩ := List.mem_map.1 hu; rfl) | (simp at hu; subst hu; rfl)) (by unfold maxLen; omega) (by omega) HLA4.out.size ?_)
                intro v5 w5 hown5 hgrow5 _ _
                have HO5 := hid (OwnInts.ofH (zs := insU S x) hown5 (by unfold insU; rw [← HQE.out, List.map_append, List.map_cons, HXS.out]; simp))
                have HL5 := hid (show Later w w5 from HL4.out.grown hgrow5 HL4.out.size (fun b hb => Nat.le_trans HL.out.size (HOW4.out.lt b hb).1))
                clear hown5 hgrow5
                go_wp2_with fail
                go_roundw
                case rel => exact ⟨k + 1, hlt, by go_num, fun h => absurd h (by omega), by rw [HS.out]; exact HO5.out.wide HL.out.size (Nat.le_refl _), HL5.out⟩
                case measure => simp [intOf]; omega
    · go_wp2_with fail
      go_ret
      rw [take_all zs k (by omega)] at hO
      exact ⟨_, rfl, hO, hL⟩
end Go.Proofs.Ytoaopmafokoaoab
