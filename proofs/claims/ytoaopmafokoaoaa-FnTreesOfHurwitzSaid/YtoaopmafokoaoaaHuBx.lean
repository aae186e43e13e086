/- HuBr, HuBa, HuBs: in one text. -/
import Derived.Test.YtoaopmafokoaoaaHuDlx
import Derived.Test.YtoaopmafokoaoaaHuDij
import Derived.Test.YtoaopmafokoaoaaHuUx
namespace Go.Proofs.Ytoaopmafokoaoaa
open Go.RowKit


def sumQ (s : So) : Int := s.1 + s.2.1 + s.2.2.1 + s.2.2.2
def InQ (s : So) : Prop := (0 ≤ s.1 ∧ s.1 ≤ 100000) ∧ (0 ≤ s.2.1 ∧ s.2.1 ≤ 100000) ∧ (0 ≤ s.2.2.1 ∧ s.2.2.1 ≤ 100000) ∧ (0 ≤ s.2.2.2 ∧ s.2.2.2 ≤ 100000)
theorem Q4.inQ {x y z t : Int} (h : Q4 x y z t) : InQ (x, y, z, t) := by
  obtain ⟨hx, hy, hz, ht⟩ := h
  exact ⟨⟨by show (0 : Int) ≤ x; omega, hx.2⟩, ⟨by show (0 : Int) ≤ y; omega, hy.2⟩, ⟨by show (0 : Int) ≤ z; omega, hz.2⟩, ht⟩
theorem noSo_inQ : InQ noSo := by unfold InQ noSo; simp
theorem sumQ_soL (s : So) : sumL (soL s) = sumQ s := by
  obtain ⟨x, y, z, t⟩ := s
  show sumL (qL x y z t) = x + y + z + t
  unfold qL sumL
  split <;> simp <;> omega
set_option maxRecDepth 20000 in
set_option maxHeartbeats 1000000 in
theorem sumS_any (s : So) (w : World) (hs : InQ s) :
    Calls Try.prog 104 #[soA s] w fun e w' => e = .returned (.int .i64 (sumQ s)) ∧ Later w w' := by
  obtain ⟨x, y, z, t⟩ := s
  obtain ⟨⟨hx1, hx2⟩, ⟨hy1, hy2⟩, ⟨hz1, hz2⟩, ⟨ht1, ht2⟩⟩ := hs
  simp only at hx1 hx2 hy1 hy2 hz1 hz2 ht1 ht2
  obtain ⟨c0, c1, c2, c3⟩ := arr4_alloc w x y z t
  have HL := hid (Later.alloc w (.cells #[.int .i64 x, .int .i64 y, .int .i64 z, .int .i64 t] 69))
  show Calls Try.prog 104 #[.agg #[.int .i64 x, .int .i64 y, .int .i64 z, .int .i64 t]] w _
  go_enter Try.func104, Try.ntmps104
  go_wp2_with fail
  go_ret
  exact ⟨rfl, HL.out⟩
set_option maxRecDepth 20000 in
set_option maxHeartbeats 1000000 in
/-- The test whether a solution has no greater sum. -/
theorem branchTest (x y z t : Int) (B : Nat) (w0 : World) (hq : Q4 x y z t) (hb : Arr4 w0 B x y z t) :
    Tests w0 103 #[.pointer (some ⟨B, 0, none⟩)] InQ (fun n => decide (sumQ n ≤ sumQ (x, y, z, t))) := by
  intro w hL s hs
  obtain ⟨p, q, r, u⟩ := s
  have HS := hid hs
  have HQ := hid hq.inQ
  obtain ⟨e0, e1, e2, e3⟩ := hb.later hL
  obtain ⟨c0, c1, c2, c3⟩ := arr4_alloc w p q r u
  have hA := Later.alloc w (.cells #[.int .i64 p, .int .i64 q, .int .i64 r, .int .i64 u] 69)
  replace e0 := hA.cell e0
  replace e1 := hA.cell e1
  replace e2 := hA.cell e2
  replace e3 := hA.cell e3
  have HL := hid hA
  have HC1 := hid (show ∀ w', Calls Try.prog 104 #[.agg #[.int .i64 p, .int .i64 q, .int .i64 r, .int .i64 u]] w' fun e w'' => e = .returned (.int .i64 (sumQ (p, q, r, u))) ∧ Later w' w'' from fun w' => sumS_any (p, q, r, u) w' hs)
  have HC2 := hid (show ∀ w', Calls Try.prog 104 #[.agg #[.int .i64 x, .int .i64 y, .int .i64 z, .int .i64 t]] w' fun e w'' => e = .returned (.int .i64 (sumQ (x, y, z, t))) ∧ Later w' w'' from fun w' => sumS_any (x, y, z, t) w' hq.inQ)
  have TOK := hid True.intro
  obtain ⟨S1, hS1⟩ : ∃ S, sumQ (p, q, r, u) = S := ⟨_, rfl⟩
  obtain ⟨S2, hS2⟩ : ∃ S, sumQ (x, y, z, t) = S := ⟨_, rfl⟩
  have hb1 : -1000000 ≤ S1 ∧ S1 ≤ 1000000 := by obtain ⟨h1, h2, h3, h4⟩ := hs; rw [← hS1]; unfold sumQ; simp only at h1 h2 h3 h4 ⊢; omega
  rw [hS1] at HC1
  rw [hS2] at HC2
  simp only [hS1, hS2]
  clear hA hs hb hL hq hS1 hS2
  show Calls Try.prog 103 #[.agg #[.int .i64 p, .int .i64 q, .int .i64 r, .int .i64 u], .pointer (some ⟨B, 0, none⟩)] w _
  go_enter Try.func103, Try.ntmps103
  go_wp2_with fail
  generalize w.alloc (.cells #[.int .i64 p, .int .i64 q, .int .i64 r, .int .i64 u] 69) = w1 at c0 c1 c2 c3 e0 e1 e2 e3 HL ⊢
  obtain ⟨C, hC⟩ : ∃ C, w.heap.size = C := ⟨_, rfl⟩
  rw [hC] at c0 c1 c2 c3 ⊢
  go_region_held3 (fun w' => w'.cell? ⟨C, 0, none⟩ = some (.int .i64 p) ∧ w'.cell? ⟨C, 1, none⟩ = some (.int .i64 q) ∧ w'.cell? ⟨C, 2, none⟩ = some (.int .i64 r) ∧ w'.cell? ⟨C, 3, none⟩ = some (.int .i64 u) ∧ w'.cell? ⟨B, 0, none⟩ = some (.int .i64 x) ∧ w'.cell? ⟨B, 1, none⟩ = some (.int .i64 y) ∧ w'.cell? ⟨B, 2, none⟩ = some (.int .i64 z) ∧ w'.cell? ⟨B, 3, none⟩ = some (.int .i64 t)) (first | exact ⟨c0, c1, c2, c3, e0, e1, e2, e3⟩ | exact ⟨d0, d1, d2, d3, d4, d5, d6, d7⟩ | exact ⟨f0, f1, f2, f3, f4, f5, f6, f7⟩) (first | (have hh := TOK; clear hh; go_at_call 104; refine (HC1.out _).mono ?_; clear TOK; rintro e w2 ⟨rfl, hL2⟩; have hL2' := (Later.drew w1).trans hL2; have HL2 := hid hL2'; have d0 := hL2'.cell c0; have d1 := hL2'.cell c1; have d2 := hL2'.cell c2; have d3 := hL2'.cell c3; have d4 := hL2'.cell e0; have d5 := hL2'.cell e1; have d6 := hL2'.cell e2; have d7 := hL2'.cell e3; clear hL2 hL2') | (go_at_call 104; refine (HC2.out _).mono ?_; rintro e w3 ⟨rfl, hL3⟩; have hL3' := HL2.out.trans hL3; have HL3 := hid hL3'; have f0 := hL3'.cell c0; have f1 := hL3'.cell c1; have f2 := hL3'.cell c2; have f3 := hL3'.cell c3; have f4 := hL3'.cell e0; have f5 := hL3'.cell e1; have f6 := hL3'.cell e2; have f7 := hL3'.cell e3; clear hL3 hL3'))
  all_goals
    have HLf := hid (HL.out.trans HL3.out)
    clear c0 c1 c2 c3 e0 e1 e2 e3 d0 d1 d2 d3 d4 d5 d6 d7 f0 f1 f2 f3 f4 f5 f6 f7
    go_wp2_with fail
    go_ret
    exact ⟨rfl, HLf.out⟩


theorem compT_pre (L M : List So) : ∀ k, k ≤ L.length → compT (L ++ M) k = compT L k := by
  intro k
  induction k with
  | zero => intro _; rfl
  | succ k ih =>
    intro h
    have e : ∀ j, j < L.length → (L ++ M).getD j noSo = L.getD j noSo := fun j hj => by
      rw [List.getD_eq_getElem?_getD, List.getD_eq_getElem?_getD, List.getElem?_append_left hj]
    unfold compT
    rw [ih (by omega), e k (by omega), e (k - 1) (by omega)]
theorem compT_snoc (L : List So) (x : So) : compT (L ++ [x]) (L ++ [x]).length = compT L L.length ++ (if L.length = 0 ∨ x ≠ L.getD (L.length - 1) noSo then [x] else []) := by
  rw [List.length_append, List.length_singleton]
  show compT (L ++ [x]) L.length ++ _ = _
  rw [compT_pre L [x] L.length (Nat.le_refl _)]
  congr 1
  have e1 : (L ++ [x]).getD L.length noSo = x := by simp
  rw [e1]
  by_cases h : L.length = 0
  · rw [if_pos (.inl h), if_pos (.inl h)]
  · have e2 : (L ++ [x]).getD (L.length - 1) noSo = L.getD (L.length - 1) noSo := by
      rw [List.getD_eq_getElem?_getD, List.getD_eq_getElem?_getD, List.getElem?_append_left (by omega)]
    rw [e2]
theorem takeWhile_all {p : List Int → Bool} {U : List (List Int)} (h : ∀ u ∈ U, p u = true) : U.takeWhile p = U := by
  induction U with
  | nil => rfl
  | cons u U ih => rw [List.takeWhile_cons, if_pos (h u (by simp)), ih (fun v hv => h v (by simp [hv]))]
theorem putL_end {U : List (List Int)} {a : List Int} (h : ∀ u ∈ U, befL u a = true) : putL U a = U ++ [a] := by
  have hk : putK U a = U.length := by unfold putK; rw [takeWhile_all h]
  unfold putL
  rw [hk, if_neg (by omega), List.take_length, List.drop_length]
theorem putL_last {V : List (List Int)} {a : List Int} (h : ∀ u ∈ V, befL u a = true) : putL (V ++ [a]) a = V ++ [a] := by
  have hk : putK (V ++ [a]) a = V.length := by
    unfold putK
    rw [List.takeWhile_append, takeWhile_all h]
    simp [befL_irr]
  unfold putL
  rw [hk, if_pos (by simp)]
theorem soL_inj {s u : So} (h : soL s = soL u) : s = u := by
  have := congrArg toSo h
  rwa [show toSo (soL s) = s from toSo_qL _ _ _ _, show toSo (soL u) = u from toSo_qL _ _ _ _] at this
theorem Sol.toSo {ys : List Int} {a b : Int} (h : Sol ys a b) : soL (toSo ys) = ys := by
  obtain ⟨x, y, z, t, rfl, _⟩ := h.q4
  rw [toSo_qL]; rfl
def bigQ (zs : List Int) (n : So) : Bool := !decide (sumQ n ≤ sumL zs)
def brF (a : Int) (zs : List Int) (k : Nat) : List So := ((List.range k).map (nbQ a zs)).filter (bigQ zs)
theorem brF_succ (a : Int) (zs : List Int) (k : Nat) : brF a zs (k + 1) = brF a zs k ++ (if bigQ zs (nbQ a zs k) = true then [nbQ a zs k] else []) := by
  unfold brF
  rw [List.range_succ, List.map_append, List.filter_append]
  congr 1
  simp only [List.map_cons, List.map_nil, List.filter_cons, List.filter_nil]
def BrInv (a : Int) (zs : List Int) (k : Nat) : Prop :=
  (compT (brF a zs k) (brF a zs k).length).map soL = upF a zs k ∧
  ((brF a zs k = [] ∧ upF a zs k = []) ∨ ∃ V l i, upF a zs k = V ++ [l] ∧ (brF a zs k).length ≠ 0 ∧ soL ((brF a zs k).getD ((brF a zs k).length - 1) noSo) = l ∧ (∀ v ∈ V, befL v l = true) ∧ i < k ∧ jumpL a zs i = some l)
theorem brInv {zs : List Int} {a b : Int} (hS : Sol zs a b) : ∀ k, k ≤ zs.length → BrInv a zs k := by
  intro k
  induction k with
  | zero => intro _; exact ⟨rfl, .inl ⟨rfl, rfl⟩⟩
  | succ k ih =>
    intro hk
    obtain ⟨h1, h2⟩ := ih (by omega)
    have hsb := hS.sum_bd
    cases hj : jumpL a zs k with
    | none =>
      have hn : nbQ a zs k = noSo := by unfold nbQ; rw [hj]; rfl
      have hq : bigQ zs (nbQ a zs k) = false := by rw [hn]; unfold bigQ; rw [decide_eq_true (by show (0 : Int) + 0 + 0 + 0 ≤ sumL zs; omega)]; rfl
      have e : brF a zs (k + 1) = brF a zs k := by rw [brF_succ, hq]; simp
      unfold BrInv
      rw [e, upF_none hj]
      refine ⟨h1, ?_⟩
      rcases h2 with h2 | ⟨V, l, i, p1, p2, p3, p4, p5, p6⟩
      · exact .inl h2
      · exact .inr ⟨V, l, i, p1, p2, p3, p4, by omega, p6⟩
    | some ys =>
      have hys := hS.jump (by omega) hj
      have hn : nbQ a zs k = toSo ys := by unfold nbQ; rw [hj]; rfl
      have hsum : sumQ (nbQ a zs k) = sumL zs - zs.getD k 0 + othL a zs k := by
        rw [hn, ← sumQ_soL, hys.toSo]; exact jump_sum (by omega) hj
      by_cases hlt : zs.getD k 0 < othL a zs k
      · have hq : bigQ zs (nbQ a zs k) = true := by unfold bigQ; rw [decide_eq_false (by omega)]; rfl
        have e : brF a zs (k + 1) = brF a zs k ++ [toSo ys] := by rw [brF_succ, hq, hn]; simp
        unfold BrInv
        rw [e, upF_some hj, if_pos hlt, compT_snoc]
        have hlast : (brF a zs k ++ [toSo ys]).getD ((brF a zs k ++ [toSo ys]).length - 1) noSo = toSo ys := by simp
        rcases h2 with ⟨p1, p2⟩ | ⟨V, l, i, p1, p2, p3, p4, p5, p6⟩
        · rw [p1, p2]
          refine ⟨?_, .inr ⟨[], ys, k, ?_, by simp, ?_, fun v hv => by simp at hv, by omega, hj⟩⟩
          · simp [compT, hys.toSo, putL, putK]
          · simp [putL, putK]
          · simp [hys.toSo]
        · have hdom := branch_dom hS p5 (by omega) p6 hj
          have hl := hS.jump (by omega) p6
          have hd := befL_dom (P := l) (Q := ys) (by rw [Sol.jump_len p6, Sol.jump_len hj]) ((fallB_iff (by omega)).1 hl.hf).1 ((fallB_iff (by omega)).1 hys.hf).1 hdom
          by_cases hly : l = ys
          · subst hly
            have hf : toSo l = (brF a zs k).getD ((brF a zs k).length - 1) noSo := soL_inj (by rw [hys.toSo, p3])
            rw [if_neg (by rw [hf]; simp [p2]), List.append_nil, h1, p1, putL_last p4]
            refine ⟨rfl, .inr ⟨V, l, i, rfl, by simp, ?_, p4, by omega, p6⟩⟩
            rw [hlast, hys.toSo]
          · have hf : toSo ys ≠ (brF a zs k).getD ((brF a zs k).length - 1) noSo := fun he => hly (by rw [← p3, ← he, hys.toSo])
            have hb := hd.2 hly
            rw [if_pos (.inr hf), List.map_append, h1, p1, putL_end (fun u hu => by
              rcases List.mem_append.1 hu with h | h
              · exact befL_trans (p4 u h) hb
              · rw [List.mem_singleton] at h; rw [h]; exact hb)]
            refine ⟨by simp [hys.toSo], .inr ⟨V ++ [l], ys, k, rfl, by simp, ?_, fun v hv => ?_, by omega, hj⟩⟩
            · rw [hlast, hys.toSo]
            · rcases List.mem_append.1 hv with h | h
              · exact befL_trans (p4 v h) hb
              · rw [List.mem_singleton] at h; rw [h]; exact hb
      · have hq : bigQ zs (nbQ a zs k) = false := by unfold bigQ; rw [decide_eq_true (by omega)]; rfl
        have e : brF a zs (k + 1) = brF a zs k := by rw [brF_succ, hq]; simp
        unfold BrInv
        rw [e, upF_some hj, if_neg hlt]
        refine ⟨h1, ?_⟩
        rcases h2 with h2 | ⟨V, l, i, p1, p2, p3, p4, p5, p6⟩
        · exact .inl h2
        · exact .inr ⟨V, l, i, p1, p2, p3, p4, by omega, p6⟩


theorem nbQ_inQ {a b : Int} {zs : List Int} (hS : Sol zs a b) (i : Nat) (hi : i < zs.length) : InQ (nbQ a zs i) := by
  unfold nbQ
  cases hj : jumpL a zs i with
  | none => exact noSo_inQ
  | some ys =>
    obtain ⟨x, y, z, t, rfl, hq⟩ := (hS.jump hi hj).q4
    show InQ (toSo (qL x y z t))
    rw [toSo_qL]; exact hq.inQ
set_option maxRecDepth 20000 in
set_option maxHeartbeats 1000000 in
theorem branchesS_any (x y z t a b : Int) (w : World) (hS : Sol (qL x y z t) a b) (hq : Q4 x y z t) :
    Calls Try.prog 48 #[.agg #[.int .i64 x, .int .i64 y, .int .i64 z, .int .i64 t], .int .i64 a] w fun e w' => ∃ g cap, e = .returned (.slice (some ⟨g, 0, none⟩) (brF a (qL x y z t) (qN t)).length cap) ∧ OwnSols w.heap.size w' (.slice (some ⟨g, 0, none⟩) (brF a (qL x y z t) (qN t)).length cap) (brF a (qL x y z t) (qN t)) ∧ Later w w' := by
  have hA := Later.alloc w (.cells #[.int .i64 x, .int .i64 y, .int .i64 z, .int .i64 t] 69)
  have HT := hid (branchTest x y z t w.heap.size (w.alloc (.cells #[.int .i64 x, .int .i64 y, .int .i64 z, .int .i64 t] 69)) hq (arr4_alloc w x y z t))
  obtain ⟨c0, c1, c2, c3⟩ := arr4_alloc w x y z t
  have HL := hid hA
  have HNB := hid (fun w' => neighbours_any x y z t a b w' hS hq)
  have HSM := hid (sumQ_soL (x, y, z, t))
  have hNl : ((List.range (qN t)).map (nbQ a (qL x y z t))).length = qN t := by simp
  have HD := hid (show ∀ s ∈ (List.range (qN t)).map (nbQ a (qL x y z t)), InQ s from fun s hs => by
    obtain ⟨i, hi, rfl⟩ := List.mem_map.1 hs
    exact nbQ_inQ hS i (by rw [qL_len]; simpa using hi))
  have hqn := qN_bd t
  have HF := hid (show brF a (qL x y z t) (qN t) = ((List.range (qN t)).map (nbQ a (qL x y z t))).filter (fun s => !(decide (sumQ s ≤ sumQ (x, y, z, t)))) by
    unfold brF bigQ
    rw [show sumL (qL x y z t) = sumQ (x, y, z, t) from HSM.out])
  obtain ⟨F, hF⟩ : ∃ F, brF a (qL x y z t) (qN t) = F := ⟨_, rfl⟩
  obtain ⟨N, hN⟩ : ∃ N, (List.range (qN t)).map (nbQ a (qL x y z t)) = N := ⟨_, rfl⟩
  rw [hF] at HF ⊢
  rw [hN] at HF HNB HD hNl
  have HNL := hid hNl
  have HWS := hid (show (w.alloc (.cells #[.int .i64 x, .int .i64 y, .int .i64 z, .int .i64 t] 69)).heap.size = w.heap.size + 1 by simp)
  clear hS hq hF hN hA hNl
  go_enter Try.func48, Try.ntmps48
  go_wp2_with fail
  generalize w.alloc (.cells #[.int .i64 x, .int .i64 y, .int .i64 z, .int .i64 t] 69) = w1 at c0 c1 c2 c3 HL HT HWS ⊢
  obtain ⟨B, hB⟩ : ∃ B, w.heap.size = B := ⟨_, rfl⟩
  rw [hB] at c0 c1 c2 c3 HT ⊢
  refine (HNB.out w1).mono ?_
  rintro e w2 ⟨v2, rfl, ho, hL2⟩
  obtain ⟨g, cg, rfl⟩ : ∃ g cg, v2 = .slice (some ⟨g, 0, none⟩) N.length cg := by
    rcases ho.2 with ⟨_, h0⟩ | ⟨g, cap, cur, e, _⟩
    · have := HNL.out; omega
    · exact ⟨g, cap, e⟩
  have HO := hid ho
  have HL2 := hid hL2
  have hNb : N.length ≤ 1000000 := by have := HNL.out; omega
  have HLW := hid (show w.heap.size ≤ w1.heap.size by rw [HWS.out]; omega)
  clear ho hL2 c0 c1 c2 c3
  go_wp2_with fail
  refine (deleteFunc_any w1 103 #[.pointer (some ⟨B, 0, none⟩)] Try.call103 InQ (fun n => decide (sumQ n ≤ sumQ (x, y, z, t))) HT.out g cg N w2 HL2.out (Nat.le_refl _) HD.out hNb HO.out).mono ?_
  rintro e w3 ⟨rfl, ho3, hL3⟩
  rw [← HF.out] at ho3 ⊢
  have HO3 := hid (ho3.base HLW.out)
  have HL3 := hid (HL.out.trans hL3)
  clear ho3 hL3
  go_wp2_with fail
  go_ret
  exact ⟨g, cg, rfl, HO3.out, HL3.out⟩
set_option maxRecDepth 20000 in
set_option maxHeartbeats 1000000 in
theorem implBranchesOf_any (v : Value) (zs : List Int) (a b : Int) (w : World) (h : Ints w v zs) :
    Calls Try.prog 14 #[v, .int .i64 a, .int .i64 b] w fun e w' => RowsAns w (brAns zs a b) e w' := by
  obtain ⟨p, cap, rfl, hl, _⟩ := id h
  have H := hid h
  clear h
  cases hs : (givenB a b && solB zs a b)
  · have HS := hid hs
    have HA := hid (show brAns zs a b = none by unfold brAns; rw [hs]; simp)
    clear hs
    go_enter Try.func14, Try.ntmps14
    go_wp2_with fail
    refine (solutionOf_no _ zs a b _ HS.out H.out).mono ?_
    rintro e w1 ⟨rfl, hL⟩
    have HL := hid (hL.trans (Later.alloc w1 (.cells #[.int .i64 0, .int .i64 0, .int .i64 0, .int .i64 0] 69)))
    clear hL
    go_wp2_with fail
    go_ret2
    rw [HA.out]
    exact ⟨_, rfl, OwnRows.noneH _ _ _, HL.out⟩
  · have hS := Sol.good hs
    have HS := hid hS
    obtain ⟨x, y, z, t, rfl, hq⟩ := hS.q4
    have HQ := hid hq
    have HA := hid (show brAns (qL x y z t) a b = some (upF a (qL x y z t) (qL x y z t).length) by unfold brAns; rw [if_pos hs])
    have hinv := (brInv hS (qL x y z t).length (Nat.le_refl _)).1
    have HBR := hid (fun w0 => branchesS_any x y z t a b w0 hS hq)
    rw [qL_len] at hinv HA
    have hfl : (brF a (qL x y z t) (qN t)).length ≤ 4 := by
      unfold brF
      have h1 := List.length_filter_le (bigQ (qL x y z t)) ((List.range (qN t)).map (nbQ a (qL x y z t)))
      have h2 := qN_bd t
      simp only [List.length_map, List.length_range] at h1
      omega
    obtain ⟨F, hF⟩ : ∃ F, brF a (qL x y z t) (qN t) = F := ⟨_, rfl⟩
    rw [hF] at hinv HBR hfl
    obtain ⟨M, hM⟩ : ∃ M, compT F F.length = M := ⟨_, rfl⟩
    have HCM := hid hM
    have hml : M.length ≤ 4 := by rw [← hM]; have := compT_le F F.length; omega
    rw [hM] at hinv
    have HINV := hid hinv
    clear hs hS hq hF hM hinv
    go_enter Try.func14, Try.ntmps14
    go_wp2_with fail
    refine (solutionOf_yes _ x y z t a b _ HS.out HQ.out H.out).mono ?_
    rintro e w1 ⟨rfl, hL⟩
    obtain ⟨c0, c1, c2, c3⟩ := arr4_alloc w1 x y z t
    have HL := hid (hL.trans (Later.alloc w1 (.cells #[.int .i64 x, .int .i64 y, .int .i64 z, .int .i64 t] 69)))
    clear hL
    go_wp2_with fail
    generalize w1.alloc (.cells #[.int .i64 x, .int .i64 y, .int .i64 z, .int .i64 t] 69) = w2 at c0 c1 c2 c3 HL ⊢
    refine (HBR.out _).mono ?_
    rintro e w3 ⟨g, cg, rfl, ho, hL3⟩
    have HO := hid ho
    have HL3 := hid hL3
    clear ho hL3 c0 c1 c2 c3
    go_wp2_with fail
    refine (compact_any w2 g cg F w3 HL3.out (Nat.le_refl _) (by omega) HO.out).mono ?_
    rintro e w4 ⟨rfl, ho4, hL4⟩
    rw [HCM.out] at ho4 ⊢
    have HSO := hid (ho4.sols (by omega))
    have HL4 := hid (HL.out.trans hL4)
    clear ho4 hL4
    go_wp2_with fail
    refine (listsOfS_any _ M _ (by omega) HSO.out).mono ?_
    rintro e w5 ⟨v5, rfl, ho5, hL5⟩
    rw [HINV.out] at ho5
    obtain ⟨a5, c5, rfl, _⟩ := ho5.shape
    have HO5 := hid (ho5.wide HL4.out.size (Nat.le_refl _))
    have HL5 := hid (HL4.out.trans hL5)
    clear ho5 hL5
    go_wp2_with fail
    go_ret2
    rw [HA.out]
    exact ⟨_, rfl, HO5.out, HL5.out⟩
end Go.Proofs.Ytoaopmafokoaoaa
