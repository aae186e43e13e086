/- HuTi, HuTj: in one text. -/
import Derived.Test.YtoaopmafokoaoaaHuTs
import Derived.Test.YtoaopmafokoaoaaHuBx
namespace Go.Proofs.Ytoaopmafokoaoaa
open Go.RowKit


theorem containsS_any {lo : Nat} (g cap : Nat) (N : List So) (s : So) (w : World) (hb : N.length ≤ 1000000000000) (h : OwnSols lo w (.slice (some ⟨g, 0, none⟩) N.length cap) N) :
    Calls Try.prog 49 #[.slice (some ⟨g, 0, none⟩) N.length cap, .agg #[.int .i64 s.1, .int .i64 s.2.1, .int .i64 s.2.2.1, .int .i64 s.2.2.2]] w fun e w' => e = .returned (.bool (decide (s ∈ N))) ∧ Later w w' := by
  have h' : w.ownsRow lo 69 4 (.slice (some ⟨g, 0, none⟩) N.length cap) N.length (soCells N) := h
  have hc := AnyQ.slices_Contains laysSlLaysQ7 4 Try.isAgg69 Try.sizeOf69 soV (fun _ => rfl) (fun s u => decide (s = u)) eqlSo g 0 N.length cap N s w (Nat.le_refl _) (by omega) (fun j hj i v hv => by
    have hat := soCells_at N j hj
    have hi : i < 4 := by
      rcases Nat.lt_or_ge i 4 with h | h
      · exact h
      · rw [List.getElem?_eq_none (by simpa [soV] using h)] at hv; cases hv
    have e : w.cell? ⟨g, 0 + j * 4 + i, none⟩ = (soCells N)[j * 4 + i]? := by rw [Nat.zero_add]; exact h'.cellAt _ (by omega)
    rw [e]
    rw [getElem!_pos N j hj] at hv
    have h4 : i = 0 ∨ i = 1 ∨ i = 2 ∨ i = 3 := by omega
    rcases h4 with rfl | rfl | rfl | rfl
    · rw [Nat.add_zero, hat.1]; exact hv
    · rw [hat.2.1]; exact hv
    · rw [hat.2.2.1]; exact hv
    · rw [hat.2.2.2]; exact hv)
  refine (show Calls Try.prog 49 #[.slice (some ⟨g, 0, none⟩) N.length cap, .agg #[.int .i64 s.1, .int .i64 s.2.1, .int .i64 s.2.2.1, .int .i64 s.2.2.2]] w _ from hc).mono ?_
  rintro e w' ⟨rfl, hL⟩
  refine ⟨?_, hL⟩
  rw [List.take_length]
  have : (N.any fun y => decide (s = y)) = decide (s ∈ N) := by
    by_cases hm : s ∈ N
    · rw [decide_eq_true hm, List.any_eq_true]; exact ⟨s, hm, by simp⟩
    · rw [decide_eq_false hm, List.any_eq_false]; exact fun y hy => by simp; intro e; subst e; exact hm hy
  rw [this]
theorem mem_compT (L : List So) (x : So) : ∀ k, k ≤ L.length → (x ∈ compT L k ↔ x ∈ L.take k) := by
  intro k
  induction k with
  | zero => intro _; simp [compT]
  | succ k ih =>
    intro hk
    have h1 := ih (by omega)
    rw [take_snocS L k (by omega), List.mem_append, ← h1]
    show x ∈ compT L k ++ _ ↔ _
    rw [List.mem_append]
    by_cases hc : k = 0 ∨ L.getD k noSo ≠ L.getD (k - 1) noSo
    · rw [if_pos hc]
    · rw [if_neg hc]
      rw [not_or, Classical.not_not] at hc
      constructor
      · rintro (h | h)
        · exact .inl h
        · simp at h
      · rintro (h | h)
        · exact .inl h
        · left
          rw [List.mem_singleton] at h
          refine h1.2 ?_
          rw [h, hc.2]
          have hk1 : k - 1 < k := by omega
          have hk2 : k - 1 < L.length := by omega
          rw [List.getD_eq_getElem?_getD, List.getElem?_eq_getElem hk2, Option.getD_some]
          exact List.mem_take_iff_getElem.2 ⟨k - 1, by rw [Nat.min_def]; split <;> omega, rfl⟩
theorem brF_mem {zs : List Int} {a b : Int} (hS : Sol zs a b) (y : List Int) : y ∈ (brF a zs zs.length).map soL ↔ y ∈ upF a zs zs.length := by
  have h := (brInv hS zs.length (Nat.le_refl _)).1
  rw [← h, List.mem_map, List.mem_map]
  have hm := fun x => mem_compT (brF a zs zs.length) x (brF a zs zs.length).length (Nat.le_refl _)
  simp only [List.take_length] at hm
  constructor
  · rintro ⟨x, hx, rfl⟩; exact ⟨x, (hm x).2 hx, rfl⟩
  · rintro ⟨x, hx, rfl⟩; exact ⟨x, (hm x).1 hx, rfl⟩
theorem brF_len (a : Int) (x y z t : Int) : (brF a (qL x y z t) (qN t)).length ≤ 4 := by
  unfold brF
  have h1 := List.length_filter_le (bigQ (qL x y z t)) ((List.range (qN t)).map (nbQ a (qL x y z t)))
  have h2 := qN_bd t
  simp only [List.length_map, List.length_range] at h1
  omega
theorem Sol.q4s {s : So} {a b : Int} (h : Sol (soL s) a b) : Q4 s.1 s.2.1 s.2.2.1 s.2.2.2 := by
  obtain ⟨x, y, z, t, e, hq⟩ := h.q4
  have : s = (x, y, z, t) := soL_inj e
  subst this; exact hq
theorem soL_head (s : So) : (soL s).getD 0 0 = s.1 := by unfold soL qL; split <;> rfl
def treeB (zs : List Int) (a b most : Int) : Bool := givenB a b && solB zs a b && decide (most ≤ 100000) && decide (zs.getD 0 0 ≤ most)
def TreeAns (zs : List Int) (a b most : Int) (o : Option (List (List Int))) : Prop := if treeB zs a b most = true then TreeRes a most zs o else o = none
/-- All of a tree have as many parts as its beginning. -/
theorem Reach.len {a most : Int} {s x : List Int} (h : Reach a most s x) : x.length = s.length := by
  induction h with
  | base => rfl
  | step hr hst ih =>
    obtain ⟨j, h1, h2⟩ := upF_from hst.1
    rw [← ih]; exact Sol.jump_len h2
theorem parts_same {a most : Int} {zs : List Int} {T : List So} (h : ∀ x ∈ T.map soL, Reach a most zs x) : (∀ s ∈ T, s.2.2.2 = 0) ∨ ∀ s ∈ T, s.2.2.2 ≠ 0 := by
  have hl : ∀ s ∈ T, (soL s).length = zs.length := fun s hs' => (h _ (List.mem_map_of_mem hs')).len
  have e : ∀ s : So, (soL s).length = if s.2.2.2 = 0 then 3 else 4 := fun s => by unfold soL qL; split <;> rfl
  by_cases hz : zs.length = 3
  · left; intro s hs'; have := hl s hs'; rw [e, hz] at this; split at this
    · assumption
    · omega
  · right; intro s hs' h0; have := hl s hs'; rw [e, if_pos h0] at this; omega
theorem TrP.out {a most : Int} {zs : List Int} {T : List So} {k : Nat} (h : TrP a most zs (T.map soL) k) (hk : T.length ≤ k) (hl : T.length ≤ 500) : TreeRes a most zs (some ((sortQ T).map soL)) := by
  have hp : (sortQ T).Perm T := List.mergeSort_perm _ _
  have hnd : T.Nodup := List.Pairwise.imp (fun {x y} hxy e => hxy (congrArg soL e)) (List.pairwise_map.1 h.nod)
  refine TrP.done (T := T.map soL) ⟨h.nod, h.rch, h.beg, fun i hi hil => h.cls i (by rw [List.length_map] at hil; omega) hil⟩ (by rw [List.length_map]; exact hl) (hp.map soL) (sortQ_sorted hnd (parts_same h.rch))


set_option maxRecDepth 20000 in
set_option maxHeartbeats 4000000 in
theorem implTreeUpTo_any (v : Value) (zs : List Int) (a b most : Int) (w : World) (h : Ints w v zs) :
    Calls Try.prog 8 #[v, .int .i64 a, .int .i64 b, .int .i64 most] w fun e w' => ∃ o, TreeAns zs a b most o ∧ RowsAns w o e w' := by
  obtain ⟨p, cap, rfl, hl, _⟩ := id h
  have H := hid h
  clear h
  obtain ⟨i0, hi, hz0, hz1, hz2⟩ := info_parts Try.infoSo
  cases hs : (givenB a b && solB zs a b)
  · have HS := hid hs
    have HA := hid (show TreeAns zs a b most none by unfold TreeAns treeB; rw [hs]; simp)
    clear hs
    go_enter Try.func8, Try.ntmps8
    go_wp2_with fail
    refine (solutionOf_no _ zs a b _ HS.out H.out).mono ?_
    rintro e w1 ⟨rfl, hL⟩
    have HL := hid (hL.trans (Later.alloc w1 (.cells #[.int .i64 0, .int .i64 0, .int .i64 0, .int .i64 0] 69)))
    clear hL
    go_wp2_with fail
    go_ret2
    exact ⟨none, HA.out, _, rfl, OwnRows.noneH _ _ _, HL.out⟩
  · have hS := Sol.good hs
    have HS := hid hS
    obtain ⟨x, y, z, t, rfl, hq⟩ := hS.q4
    have HQ := hid hq
    have hd0 : (qL x y z t).getD 0 0 = x := soL_head (x, y, z, t)
    by_cases hm : most ≤ 100000
    · by_cases hx : x ≤ most
      · have HA := hid (fun o (ho : TreeRes a most (qL x y z t) o) => show TreeAns (qL x y z t) a b most o by
          unfold TreeAns treeB
          rw [if_pos (by rw [hs, decide_eq_true hm, hd0, decide_eq_true hx]; rfl)]; exact ho)
        have HT0 := hid (TrP.start a most (qL x y z t))
        clear hs hS hq hd0
        go_enter Try.func8, Try.ntmps8
        go_wp2_with fail
        refine (solutionOf_yes _ x y z t a b _ HS.out HQ.out H.out).mono ?_
        rintro e w1 ⟨rfl, hL⟩
        obtain ⟨c0, c1, c2, c3⟩ := arr4_alloc w1 x y z t
        have HL := hid (hL.trans (Later.alloc w1 (.cells #[.int .i64 x, .int .i64 y, .int .i64 z, .int .i64 t] 69)))
        clear hL
        go_upto_region 5 with fail
        have hw2 : (w1.alloc (.cells #[.int .i64 x, .int .i64 y, .int .i64 z, .int .i64 t] 69)).heap.size = w1.heap.size + 1 := by simp
        generalize w1.alloc (.cells #[.int .i64 x, .int .i64 y, .int .i64 z, .int .i64 t] 69) = w2 at HL hw2 ⊢
        rw [← hw2]
        have HO := hid (show OwnSols w2.heap.size (w2.alloc (.cells #[.int .i64 x, .int .i64 y, .int .i64 z, .int .i64 t] 69)) (.slice (some ⟨w2.heap.size, 0, none⟩) 1 1) [(x, y, z, t)] from OwnSols.one w2 (x, y, z, t))
        have HL3 := hid (HL.out.trans (Later.alloc w2 (.cells #[.int .i64 x, .int .i64 y, .int .i64 z, .int .i64 t] 69)))
        have HLC := hid (show w.heap.size ≤ w2.heap.size from HL.out.size)
        have HC3 := hid (show w2.heap.size ≤ (w2.alloc (.cells #[.int .i64 x, .int .i64 y, .int .i64 z, .int .i64 t] 69)).heap.size by simp)
        generalize w2.alloc (.cells #[.int .i64 x, .int .i64 y, .int .i64 z, .int .i64 t] 69) = w3 at HO HL3 HC3 ⊢
        obtain ⟨C, hC⟩ : ∃ C, w2.heap.size = C := ⟨_, rfl⟩
        rw [hC] at HO HLC HC3 ⊢
        obtain ⟨zs, hzs⟩ : ∃ zs, qL x y z t = zs := ⟨_, rfl⟩
        have HZ := hid hzs
        rw [hzs] at HS HT0 hl ⊢
        clear hC c0 c1 c2 c3 HL hzs
        go_wp2_with fail
        go_loopw [12, 13] (fun o i wr => ∃ (g cap : Nat) (T : List So) (k : Nat), o = .slice (some ⟨g, 0, none⟩) T.length cap ∧ i = .int .i64 k ∧ OwnSols C wr o T ∧ TrP a most zs (T.map soL) k ∧ k ≤ T.length ∧ T.length ≤ 500 ∧ Later w wr ∧ C ≤ wr.heap.size) (fun _ i _ => 501 - (intOf i).toNat)
        case atStart => exact ⟨C, 1, [(x, y, z, t)], 0, rfl, rfl, HO.out, by have := HT0.out; rw [← HZ.out] at this ⊢; exact this, by simp, by simp, HL3.out, HC3.out⟩
        case round =>
          clear HO HL3 HC3 HT0
          obtain ⟨g, cap, T, k, rfl, rfl, hO, hP, hk, hl5, hL, hCw⟩ := hrel
          have HO := hid hO
          have HP := hid hP
          have HLr := hid hL
          have HCW := hid hCw
          by_cases hlt : k < T.length
          · have hltI : (k : Int) < (T.length : Int) := by omega
            obtain ⟨c0, c1, c2, c3⟩ := hO.fourAt rfl k hlt
            have hmk : (T.map soL).getD k [] = soL (T.getD k noSo) := by simp [hlt]
            have hin : soL (T.getD k noSo) ∈ T.map soL := by rw [List.getD_eq_getElem?_getD, List.getElem?_eq_getElem hlt, Option.getD_some]; exact List.mem_map_of_mem (List.getElem_mem _)
            have hS1 := (hP.rch _ hin).sol HS.out
            obtain ⟨s, hse⟩ : ∃ s, T.getD k noSo = s := ⟨_, rfl⟩
            rw [hse] at c0 c1 c2 c3 hmk hS1
            obtain ⟨x', y', z', t'⟩ := s
            simp only at c0 c1 c2 c3
            have HS1 := hid hS1
            have HQ1 := hid hS1.q4s
            have HB := hid (fun y => show y ∈ (brF a (qL x' y' z' t') (qN t')).map soL ↔ y ∈ upF a ((T.map soL).getD k []) ((T.map soL).getD k []).length by rw [hmk]; have := brF_mem hS1 y; rw [show (soL (x', y', z', t')).length = qN t' from qL_len _ _ _ _] at this; rw [show (soL (x', y', z', t')).length = qN t' from qL_len _ _ _ _]; exact this)
            have HFL := hid (brF_len a x' y' z' t')
            obtain ⟨F, hF⟩ : ∃ F, brF a (qL x' y' z' t') (qN t') = F := ⟨_, rfl⟩
            have HFE := hid hF
            rw [hF] at HB HFL
            have hgw : g < wr.heap.size := (hO.lt g rfl).2
            have hkI : (0 : Int) ≤ (k : Int) := by omega
            clear hO hP hL hCw hmk hin hS1 hse hF
            go_wp2_with fail
            refine (branchesS_any x' y' z' t' a b wr HS1.out HQ1.out).mono ?_
            rintro e w5 ⟨gF, cF, rfl, hoF, hL5⟩
            rw [HFE.out] at hoF ⊢
            have HOF := hid hoF
            have HGF := hid (show g ≠ gF by have := (hoF.lt gF rfl).1; omega)
            have HO5 := hid (HO.out.later hL5)
            have HL5 := hid (HLr.out.trans hL5)
            have HC5 := hid (Nat.le_trans HCW.out hL5.size)
            have HQ0 := hid (HP.out.take (by rw [List.length_map]; exact hlt) HB.out)
            have HW5 := hid hL5.size
            obtain ⟨D, hD⟩ : ∃ D, wr.heap.size = D := ⟨_, rfl⟩
            rw [hD] at HOF HW5
            clear hoF hL5 c0 c1 c2 c3 hD
            have hfl := HFL.out
            go_wp2_with fail
            go_loopw [12, 50] (fun o i wq => ∃ (g cap : Nat) (T' : List So) (j : Nat), o = .slice (some ⟨g, 0, none⟩) T'.length cap ∧ i = .int .i64 j ∧ j ≤ F.length ∧ OwnSols C wq o T' ∧ OwnSols D wq (.slice (some ⟨gF, 0, none⟩) F.length cF) F ∧ g ≠ gF ∧ TrQ a most zs (F.map soL) (T'.map soL) k j ∧ T'.length ≤ T.length + j ∧ Later w wq ∧ C ≤ wq.heap.size) (fun _ i _ => F.length - (intOf i).toNat)
            case atStart => exact ⟨g, cap, T, 0, rfl, rfl, Nat.zero_le _, HO5.out, HOF.out, HGF.out, HQ0.out, by omega, HL5.out, HC5.out⟩
            case round =>
              clear HO5 HOF HGF HQ0 HL5 HC5 HO HP HLr HCW HB
              obtain ⟨g, cap, T', j, rfl, rfl, hj, hO, hF, hgF, hQ, hlen, hL, hCw⟩ := hrel
              have HO := hid hO
              have HFR := hid hF
              have HQ2 := hid hQ
              have HL := hid hL
              have HCW := hid hCw
              have HGF := hid hgF
              by_cases hjl : j < F.length
              · have hjI : (j : Int) < (F.length : Int) := by omega
                have hj0 : (0 : Int) ≤ (j : Int) := by omega
                obtain ⟨d0, d1, d2, d3⟩ := hF.fourAt rfl j hjl
                have hmj : (F.map soL).getD j [] = soL (F.getD j noSo) := by simp [hjl]
                have hjm : j < (F.map soL).length := by rw [List.length_map]; exact hjl
                obtain ⟨u, hu⟩ : ∃ u, F.getD j noSo = u := ⟨_, rfl⟩
                rw [hu] at d0 d1 d2 d3 hmj
                obtain ⟨p, q, r, s⟩ := u
                simp only at d0 d1 d2 d3
                have hhd : ((F.map soL).getD j []).getD 0 0 = p := by rw [hmj]; exact soL_head (p, q, r, s)
                have hA := Later.alloc wr (.cells #[.int .i64 p, .int .i64 q, .int .i64 r, .int .i64 s] 69)
                obtain ⟨e0, e1, e2, e3⟩ := arr4_alloc wr p q r s
                have HO2 := hid (HO.out.later hA)
                have HF2 := hid (HFR.out.later hA)
                have HL2 := hid (HL.out.trans hA)
                have hgb : g < wr.heap.size := (hO.lt g rfl).2
                have hfb : gF < wr.heap.size := (hF.lt gF rfl).2
                have hDw : D ≤ wr.heap.size := Nat.le_trans (hF.lt gF rfl).1 (Nat.le_of_lt hfb)
                have hsz : (wr.alloc (.cells #[.int .i64 p, .int .i64 q, .int .i64 r, .int .i64 s] 69)).heap.size = wr.heap.size + 1 := by simp
                have hl504 : T'.length ≤ 504 := by have := HFL.out; omega
                have HCT := hid (fun w' (k : Later (wr.alloc (.cells #[.int .i64 p, .int .i64 q, .int .i64 r, .int .i64 s] 69)) w') => containsS_any g cap T' (p, q, r, s) w' (by omega) (HO2.out.later k))
                by_cases hp : p ≤ most
                · by_cases hmem : (p, q, r, s) ∈ T'
                  · have hQn := hid (HQ2.out.old (by rw [hmj]; exact List.mem_map_of_mem hmem))
                    have hdc : decide ((p, q, r, s) ∈ T') = true := decide_eq_true hmem
                    rw [hdc] at HCT
                    clear hO hF hgF hQ hL hCw hmj hhd hu hmem hdc hjm
                    go_wp2_with fail
                    refine (HCT.out _ (Later.refl _)).mono ?_
                    rintro e w6 ⟨rfl, hL6⟩
                    have HO6 := hid (HO2.out.later hL6)
                    have HF6 := hid (HF2.out.later hL6)
                    have HL6 := hid (HL2.out.trans hL6)
                    have HC6 := hid (show C ≤ w6.heap.size by have := hL6.size; have := HCW.out; omega)
                    clear hL6 d0 d1 d2 d3 e0 e1 e2 e3
                    go_wp2_with fail
                    go_roundw
                    case rel => exact ⟨g, cap, T', j + 1, rfl, by go_num, hjl, HO6.out, HF6.out, HGF.out, hQn.out, by omega, HL6.out, HC6.out⟩
                    case measure => simp [intOf]; omega
                  · have hQn := hid (HQ2.out.new hjm (by rw [hhd]; exact hp) (by rw [hmj]; intro hc; obtain ⟨u, hu1, hu2⟩ := List.mem_map.1 hc; rw [soL_inj hu2] at hu1; exact hmem hu1))
                    rw [hmj] at hQn
                    have hdc : decide ((p, q, r, s) ∈ T') = false := decide_eq_false hmem
                    rw [hdc] at HCT
                    clear hO hF hgF hQ hL hCw hmj hhd hu hmem hdc hjm
                    go_wp2_with fail
                    refine (HCT.out _ (Later.refl _)).mono ?_
                    rintro e w6 ⟨rfl, hL6⟩
                    have hs6 := hL6.size
                    replace e0 := hL6.cell e0
                    replace e1 := hL6.cell e1
                    replace e2 := hL6.cell e2
                    replace e3 := hL6.cell e3
                    have hA6 := Later.alloc w6 (.cells #[.int .i64 p, .int .i64 q, .int .i64 r, .int .i64 s] 69)
                    have HO6 := hid ((HO2.out.later hL6).later hA6)
                    have HF6 := hid ((HF2.out.later hL6).later hA6)
                    have HL6 := hid ((HL2.out.trans hL6).trans hA6)
                    have hC6 : C ≤ w6.heap.size := by have := HCW.out; omega
                    have hwl : w.heap.size ≤ w6.heap.size := by have := HLC.out; omega
                    clear hL6 hA6 d0 d1 d2 d3
                    go_wp2_with (at_builtin; refine wpList_append_lies _ (by rfl) _ _ _ (by rfl) C 69 i0 (.agg #[.int .i64 0, .int .i64 0, .int .i64 0, .int .i64 0]) 4 32 Try.underlying72 hi hz0 hz1 hz2 rfl (by omega) _ T'.length (soCells T') (by rfl) (by exact HO6.out) ⟨w6.heap.size, 0, none⟩ 1 1 [.int .i64 p, .int .i64 q, .int .i64 r, .int .i64 s] (by rfl) (by rfl) (World.news_of_block (cs := #[.int .i64 p, .int .i64 q, .int .i64 r, .int .i64 s]) (t := 69) (fr := (0, 0)) (heap_alloc_new w6 _)) (by simp [Value.oneCell']) (by omega) (by unfold maxLen; omega) (by omega) (by simp; omega) (w6.heap.size + 1) (by simp) ?_)
                    intro g2 cap2 w9 hown9 hgrow hat hglt
                    have HO9 := hid (show OwnSols C w9 (.slice (some ⟨g2, 0, none⟩) (T'.length + 1) cap2) (T' ++ [(p, q, r, s)]) by
                      unfold OwnSols; rw [soCells_snoc, List.length_append]; exact hown9)
                    have HF9 := hid (show OwnSols D w9 (.slice (some ⟨gF, 0, none⟩) F.length cF) F from ownsRow_keepS HF6.out fun bk hbk => hgrow.block bk (HF6.out.lt bk hbk).2 (fun e => by
                      have e1 : gF = bk := Option.some.inj hbk
                      have e2 : g = bk := Option.some.inj e.symm
                      exact HGF.out (e2.trans e1.symm)))
                    have HGF9 := hid (show g2 ≠ gF by
                      rcases hat with e | e
                      · have e2 : g = g2 := Option.some.inj e
                        rw [← e2]; exact HGF.out
                      · omega)
                    have HL9 := hid (show Later w w9 from HL6.out.grown hgrow (by simp; omega) (fun b' hb' => by have := (HO6.out.lt b' hb').1; have := HLC.out; omega))
                    have HC9 := hid (show C ≤ w9.heap.size by have := hgrow.size; simp at this; omega)
                    clear hown9 hgrow hat e0 e1 e2 e3
                    go_wp2_with fail
                    go_roundw
                    case rel => exact ⟨g2, cap2, T' ++ [(p, q, r, s)], j + 1, by simp, by go_num, hjl, HO9.out, HF9.out, HGF9.out, by rw [List.map_append]; exact hQn.out, by simp; omega, HL9.out, HC9.out⟩
                    case measure => simp [intOf]; omega
                · have hQn := hid (HQ2.out.skip (by rw [hhd]; exact hp))
                  clear hO hF hgF hQ hL hCw hmj hhd hu hjm
                  go_wp2_with fail
                  go_roundw
                  case rel => exact ⟨g, cap, T', j + 1, rfl, by go_num, hjl, HO2.out, HF2.out, HGF.out, hQn.out, by omega, HL2.out, by rw [hsz]; have := HCW.out; omega⟩
                  case measure => simp [intOf]; omega
              · obtain rfl : j = F.length := by omega
                have HPP := hid (show TrP a most zs (T'.map soL) (k + 1) from TrQ.drop (U := F.map soL) (by rw [List.length_map]; exact hQ))
                have hkt : k + 1 ≤ T'.length := by have := hQ.lt; rw [List.length_map] at this; omega
                clear hO hF hgF hQ hL hCw
                by_cases h5 : 500 < T'.length
                · have h5I : (500 : Int) < (T'.length : Int) := by omega
                  have HR := hid (tree_many HPP.out.nod HPP.out.rch (by rw [List.length_map]; exact h5))
                  go_wp2_with fail
                  go_ret2
                  exact ⟨none, HA.out _ (by rw [HZ.out]; exact HR.out), _, rfl, OwnRows.noneH _ _ _, HL.out⟩
                · have h5I : ¬ (500 : Int) < (T'.length : Int) := by omega
                  go_wp2_with fail
                  go_roundw
                  case rel => exact ⟨g, cap, T', k + 1, rfl, by go_num, HO.out, HPP.out, hkt, by omega, HL.out, HCW.out⟩
                  case measure => simp [intOf]; omega
          · have HR := hid (hP.out (by omega) hl5)
            clear hO hP hL hCw
            go_wp2_with fail
            refine (sortS_any w _ T wr HLr.out HLC.out (by omega) HO.out).mono ?_
            rintro e w5 ⟨rfl, hO5, hL5⟩
            have HO5 := hid (hO5.sols (by have : (sortQ T).length = T.length := List.length_mergeSort _; omega))
            have hsl : (sortQ T).length = T.length := List.length_mergeSort _
            have HL5 := hid hL5
            clear hO5 hL5
            go_wp2_with fail
            refine (listsOfS_any _ (sortQ T) w5 (by omega) HO5.out).mono ?_
            rintro e w6 ⟨v6, rfl, ho6, hL6⟩
            obtain ⟨a6, c6, rfl, _⟩ := ho6.shape
            have hlm : ((sortQ T).map soL).length = T.length := by rw [List.length_map]; exact hsl
            have ho6' := ho6.wide HL5.out.size (Nat.le_refl _)
            rw [hlm] at ho6'
            have HO6 := hid ho6'
            have HL6 := hid (HL5.out.trans hL6)
            clear ho6 hL6 ho6'
            go_wp2_with fail
            go_ret2
            exact ⟨_, HA.out _ (by rw [HZ.out]; exact HR.out), _, rfl, HO6.out, HL6.out⟩
      · have HA := hid (show TreeAns (qL x y z t) a b most none by unfold TreeAns treeB; rw [hd0, decide_eq_false hx]; simp)
        clear hs hS hq hd0
        go_enter Try.func8, Try.ntmps8
        go_wp2_with fail
        refine (solutionOf_yes _ x y z t a b _ HS.out HQ.out H.out).mono ?_
        rintro e w1 ⟨rfl, hL⟩
        obtain ⟨c0, c1, c2, c3⟩ := arr4_alloc w1 x y z t
        have HL := hid (hL.trans (Later.alloc w1 (.cells #[.int .i64 x, .int .i64 y, .int .i64 z, .int .i64 t] 69)))
        clear hL
        go_wp2_with fail
        go_ret2
        exact ⟨none, HA.out, _, rfl, OwnRows.noneH _ _ _, HL.out⟩
    · have HA := hid (show TreeAns (qL x y z t) a b most none by unfold TreeAns treeB; rw [decide_eq_false hm]; simp)
      clear hs hS hq hd0
      go_enter Try.func8, Try.ntmps8
      go_wp2_with fail
      refine (solutionOf_yes _ x y z t a b _ HS.out HQ.out H.out).mono ?_
      rintro e w1 ⟨rfl, hL⟩
      obtain ⟨c0, c1, c2, c3⟩ := arr4_alloc w1 x y z t
      have HL := hid (hL.trans (Later.alloc w1 (.cells #[.int .i64 x, .int .i64 y, .int .i64 z, .int .i64 t] 69)))
      clear hL
      go_wp2_with fail
      go_ret2
      exact ⟨none, HA.out, _, rfl, OwnRows.noneH _ _ _, HL.out⟩
end Go.Proofs.Ytoaopmafokoaoaa
