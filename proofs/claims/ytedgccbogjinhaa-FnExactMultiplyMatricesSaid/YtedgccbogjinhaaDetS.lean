/- Contracts of determinants: the model's. -/
import Derived.Test.YtedgccbogjinhaaDet
import Derived.Deep.AppendLies
namespace Go.Proofs.Ytedgccbogjinhaa
open Go.RowKit

/-- append, at a step of a region that draws: nothing appended is borne, too. -/
theorem step_append_at {P : Program} (w : World) {ops : Array Oper} {o : Oper} {a : Act} {K : Act → World → Prop} {Q : Exit → Act → World → Prop} {E : Prop} (hgd : o.guard = none) (s x : Operand) (t : TypeId)
    (ho : o.op = .call { callee := .builtin .append, args := #[s, x], argTypes := #[t, t] })
    (base : Nat) (e : TypeId) (i : TypeInfo) (z : Value) (size bytes : Nat) (ht : P.underlying t = some (.slice e)) (hi : P.info? e = some i) (hz : i.zero = some z)
    (hsize : i.size = size) (hby : i.bytes = bytes) (hzs : z.cells.size = size) (hsz : 0 < size)
    (v : Value) (n : Nat) (xs : List Value) (hs : a.eval s = v) (hown : w.ownsRow base e size v n xs)
    (ad : Addr) (m c : Nat) (news : List Value) (hx : a.eval x = .slice (some ad) m c) (hl : news.length = m * size) (hnews : ∀ j u, news[j]? = some u → w.cell? (ad.add j) = some u) (h1 : ∀ u ∈ news, u.oneCell' = true)
    (h63 : n + m ≤ maxLen) (hbytes : (n + m) * bytes ≤ 140737488355328) (hbase : base ≤ w.heap.size)
    (h : ∀ v' w', w'.ownsRow base e size v' (n + m) (xs ++ news) → w.grownBy w' v.ownBlock → K (a.put o.dst v') w') :
    if Region.wanted o (yielded ops a.tmps) = true then Oper.wp P o a w K Q else E := by
  have hw : Region.wanted o (yielded ops a.tmps) = true := by simp [Region.wanted, hgd]
  rw [if_pos hw]
  obtain ⟨v', w', hr, h2, h3, _, _⟩ := run_append_own_at (P := P) w base t o.type e i z size bytes ht hi hz hsize hby hzs hsz v n xs hown ad m c news hl hnews h1 h63 hbytes hbase
  unfold Oper.wp execOp
  simp only [ho, resolve, invoke, builtin, Sem.run_bind, Sem.run_pure, Result.andThen_ok, List.map_toArray, List.map_cons, List.map_nil, hs, hx, hr]
  exact h v' w' h2 h3

theorem Ints.news {w : World} {ad : Addr} {n c : Nat} {zs : List Int} (h : Ints w (.slice (some ad) n c) zs) : ∀ j u, (zs.map (Value.int .i64))[j]? = some u → w.cell? (ad.add j) = some u := by
  intro j u hj
  obtain ⟨a, cap, hv, _, hc⟩ := h
  simp only [Value.slice.injEq] at hv
  obtain ⟨rfl, _, rfl⟩ := hv
  have hlt : j < zs.length := by
    rcases Nat.lt_or_ge j zs.length with h | h
    · exact h
    · rw [List.getElem?_eq_none (by simpa using h)] at hj; cases hj
  obtain ⟨ad', e, hx⟩ := hc j hlt
  simp only [Option.some.injEq] at e
  subst e
  rw [hx]
  simp [hlt] at hj ⊢
  exact hj

theorem addr_add_add (a : Addr) (i j : Nat) (hi : 0 < i) : (⟨a.block, a.off + i, none⟩ : Addr).add j = a.add (i + j) := by
  unfold Addr.add
  by_cases hj : j = 0
  · subst hj; simp; omega
  · simp [hj]; omega

theorem Ints.takes {w : World} {ad : Addr} {n c : Nat} {zs : List Int} (h : Ints w (.slice (some ad) n c) zs) (j : Nat) (hj : j ≤ n) (hc' : n ≤ 9223372036854775807) : Ints w (.slice (some ad) j c) (zs.take j) := by
  obtain ⟨a, cap, hv, hl, hc⟩ := h
  simp only [Value.slice.injEq] at hv
  obtain ⟨rfl, rfl, rfl⟩ := hv
  refine ⟨some ad, c, by rw [List.length_take]; simp; omega, by rw [List.length_take]; omega, fun i hi => ?_⟩
  rw [List.length_take] at hi
  obtain ⟨ad', e, hx⟩ := hc i (by omega)
  refine ⟨ad', e, ?_⟩
  rw [hx]
  simp [show i < j by omega]

set_option maxHeartbeats 400000 in
theorem l1Own_any (ad : Addr) (n c : Nat) (zs : List Int) (w : World) (hz : zs.length = n) (hb : n ≤ 1048576) (h : Ints w (.slice (some ad) n c) zs) :
    Calls Try.prog 98 #[.slice (some ad) n c] w fun e w' => MadeInts w zs e w' := by
  obtain ⟨i0, hi, hz0, hz1, hz2⟩ := info_parts Try.infoInt
  have HN := hid (h.later (Later.alloc w (.cells #[] 3))).news
  have hown : (w.alloc (.cells #[] 3)).ownsRow w.heap.size 3 1 (.slice (some ⟨w.heap.size, 0, none⟩) 0 0) 0 [] := by
    refine ⟨rfl, .inr ⟨w.heap.size, 0, #[], rfl, Nat.le_refl _, heap_alloc_new w _, Nat.le_refl _, by omega, by simp, by simp⟩⟩
  have HOW := hid hown
  clear hown h
  go_enter Try.func98, Try.ntmps98
  go_wp2_with (at_builtin; refine wpList_append_own_at _ (by rfl) _ _ _ (by rfl) w.heap.size 3 i0 (.int .i64 0) 1 8 Try.underlying37 hi hz0 hz1 hz2 rfl (by omega) (.slice (some ⟨w.heap.size, 0, none⟩) 0 0) 0 [] (by rfl) (by exact HOW.out) ad n c (zs.map (.int .i64)) (by rfl) (by simp [hz]) HN.out (by simp [Value.oneCell']) (by unfold maxLen; omega) (by omega) (by simp) ?_)
  intro v1 w1 hown1 hgrow _ _
  have hL : Later w w1 := (Later.alloc w (.cells #[] 3)).grown hgrow (by simp) (fun b hb => by simp [Value.ownBlock] at hb; omega)
  have HO : Hid (OwnInts w.heap.size w1.heap.size w1 v1 zs) := hid ⟨by rw [hz]; simpa using hown1, fun b hb => (hown1.lt b hb).2⟩
  clear hown1 hgrow
  go_wp2_with fail
  go_ret
  exact ⟨_, rfl, HO.out, hL⟩

/-- the rows' capacities are not less than their lengths -/
def Caps (w : World) (v : Value) (zss : List (List Int)) : Prop := ∀ i, i < zss.length → ∀ ad n cap a2 c2, v = .slice (some ad) n cap → w.cell? (ad.add i) = some (.slice a2 (zss.getD i []).length c2) → (zss.getD i []).length ≤ c2
def RowsC (w : World) (v : Value) (zss : List (List Int)) : Prop := Rows2 w v zss ∧ Caps w v zss
theorem RowsC.later {w w' : World} {v : Value} {zss : List (List Int)} (h : RowsC w v zss) (k : Later w w') : RowsC w' v zss := by
  refine ⟨h.1.later k, fun i hi ad n cap a2 c2 hv hc => ?_⟩
  obtain ⟨a, cap', e, _, hx⟩ := h.1
  obtain ⟨ad', u, rfl, hu, hin⟩ := hx i hi
  rw [hv] at e
  simp only [Value.slice.injEq, Option.some.injEq] at e
  obtain ⟨rfl, rfl, rfl⟩ := e
  have := k.cell hu
  rw [hc] at this
  simp only [Option.some.injEq] at this
  subst this
  exact h.2 i hi ad _ _ a2 c2 hv hu
theorem OwnRows.rowsC {w : World} {lo hi : Nat} {v : Value} {zss : List (List Int)} (h : OwnRows lo hi w v zss) : RowsC w v zss := by
  refine ⟨h.rows, fun i hi' ad n cap a2 c2 hv hc => ?_⟩
  obtain ⟨g, cap', u, hv', hcu, hu, _⟩ := h.row hi'
  rw [hv] at hv'
  simp only [Value.slice.injEq, Option.some.injEq] at hv'
  obtain ⟨rfl, rfl, rfl⟩ := hv'
  rw [hc] at hcu
  simp only [Option.some.injEq] at hcu
  subst hcu
  obtain ⟨a, c, e, hle⟩ := hu.shape
  simp only [Value.slice.injEq] at e
  obtain ⟨_, _, rfl⟩ := e
  exact hle
def dropAt (j : Nat) (r : List Int) : List Int := r.take j ++ r.drop (j + 1)
theorem minorRow (n : Nat) (m : List (List Int)) (hq : Sq (n + 1) m) (i j t : Nat) (ht : t < n) (hj : j ≤ n) : (minorM n m i j).getD t [] = dropAt j (m.getD (skip i t) []) := by
  unfold minorM dropAt
  rw [mk_row n _ t ht]
  have hl := hq.2 (skip i t) (skip_lt ht)
  apply List.ext_getElem
  · simp only [List.length_map, List.length_range, List.length_append, List.length_take, List.length_drop, hl]; omega
  · intro k h1 h2
    have hk : k < n := by simpa using h1
    simp only [List.getElem_map, List.getElem_range, ent]
    by_cases hkj : k < j
    · rw [List.getElem_append_left (by rw [List.length_take]; omega)]
      rw [show skip j k = k by unfold skip; rw [if_neg (by omega)], List.getElem_take, getD_at _ _ (by omega)]
    · rw [List.getElem_append_right (by rw [List.length_take]; omega)]
      rw [show skip j k = k + 1 by unfold skip; rw [if_pos (by omega)], getD_at _ _ (by omega)]
      simp only [List.getElem_drop, List.length_take, hl]
      congr 1
      omega

theorem OwnInts.of {lo n : Nat} {w : World} {v : Value} {us : List Value} {zs : List Int} (h : w.ownsRow lo 3 1 v n us) (e : us = zs.map (Value.int .i64)) : OwnInts lo w.heap.size w v zs := by
  subst e
  have hn : n = zs.length := by have := h.1; simpa using this.symm
  subst hn
  exact ⟨h, fun b hb => (h.lt b hb).2⟩

/-- rows of a minor that are laid before row k -/
def laid (i k : Nat) : Nat := if k ≤ i then k else k - 1

theorem laid_snoc (n : Nat) (m : List (List Int)) (i j k : Nat) (hq : Sq (n + 1) m) (hi : i ≤ n) (hj : j ≤ n) (hk : k < n + 1) (hki : ¬ k = i) :
    (minorM n m i j).take (laid i (k + 1)) = (minorM n m i j).take (laid i k) ++ [dropAt j (m.getD k [])] := by
  have e : laid i (k + 1) = laid i k + 1 := by unfold laid; split <;> split <;> omega
  have hl : laid i k < n := by unfold laid; split <;> omega
  have hs : skip i (laid i k) = k := by unfold skip laid; split <;> split <;> omega
  have hlen : (minorM n m i j).length = n := (minorM_sq n m i j).1
  rw [e, take_snoc _ _ (by rw [hlen]; exact hl)]
  have := minorRow n m hq i j (laid i k) hl hj
  rw [hs, getD_row _ _ (by rw [hlen]; exact hl)] at this
  rw [this]

set_option maxHeartbeats 2000000 in
theorem foMinor_any (n : Nat) (m : List (List Int)) (hq : Sq (n + 1) m) (hn : n + 1 ≤ 1048576) (i j : Nat) (hi' : i ≤ n) (hj : j ≤ n) (v : Value) (w : World) (h : RowsC w v m) :
    Calls Try.prog 77 #[v, .int .i64 i, .int .i64 j] w fun e w' => MadeRows w (minorM n m i j) e w' := by
  obtain ⟨a, cap, rfl, hl⟩ := h.1.sqForm hq
  obtain ⟨ii, hii, ii0, ii1, ii2⟩ := info_parts Try.infoInt
  obtain ⟨i0, hi, hz0, hz1, hz2⟩ := info_parts Try.infoInts
  have HR := hid h
  have HQ := hid hq
  clear h
  go_enter Try.func77, Try.ntmps77
  go_wp2_with fail
  go_loopw [7, 12] (fun o y wr => ∃ k : Nat, k ≤ n + 1 ∧ y = .int .i64 k ∧ OwnRows w.heap.size wr.heap.size wr o ((minorM n m i j).take (laid i k)) ∧ Later w wr) (fun _ y _ => n + 1 - (intOf y).toNat)
  case atStart => exact ⟨0, Nat.zero_le _, rfl, OwnRows.empty _ _ _, Later.refl w⟩
  case round =>
    obtain ⟨k, hk, rfl, hO, hL⟩ := hrel
    by_cases hlt : k < n + 1
    · obtain ⟨ad, cap', ar, cr, hv, hcr, hir, hx⟩ := HR.out.1.ent HQ.out k hlt
      obtain ⟨adr, rfl, _⟩ := hx 0 (by omega)
      simp only [Value.slice.injEq, true_and] at hv
      obtain ⟨rfl, rfl⟩ := hv
      clear hx
      have hcc := HR.out.2 k (by rw [HQ.out.1]; exact hlt) ad _ _ _ _ rfl (by rw [HQ.out.2 k hlt]; exact hcr)
      rw [HQ.out.2 k hlt] at hcc
      have hcr2 := hL.cell hcr
      have HIR := hid (hir.later hL)
      clear hcr hir
      by_cases hki : k = i
      · subst hki
        have HO := hid hO
        have HL := hid hL
        clear hO hL
        go_wp2_with fail
        go_roundw
        case rel => exact ⟨k + 1, hlt, by go_num, by rw [show laid k (k + 1) = laid k k by unfold laid; simp]; exact HO.out, HL.out⟩
        case measure => simp [intOf]; omega
      · have hki2 : ¬ ((k : Int) = (i : Int)) := by omega
        have HO := hid hO
        have HL := hid hL
        have hjn : (j : Int) ≤ (n : Int) := by omega
        have hjc : (j : Int) ≤ (cr : Int) := by omega
        have hj1 : (j : Int) + 1 ≤ (n : Int) + 1 := by omega
        have hnc : (n : Int) + 1 ≤ (cr : Int) := by omega
        have hnb : (n : Int) ≤ 1048576 := by omega
        have hj0 : (0 : Int) ≤ (j : Int) + 1 := by omega
        have htn : ((j : Int) + 1).toNat = j + 1 := by omega
        have hwr : IntKind.i64.wrap ((j : Int) + 1) = (j : Int) + 1 := by rw [IntWalk.i64_left]; exact IntWalk.wrap64_in _ (by omega)
        have hrl : (m.getD k []).length = n + 1 := HQ.out.2 k hlt
        have HRL := hid hrl
        have HNC := hid hnc
        have HHL := hid (show ((minorM n m i j).take (laid i k)).length = laid i k by rw [List.length_take, (minorM_sq n m i j).1]; unfold laid; split <;> omega)
        clear hO hL hrl
        obtain ⟨A, hA, HN⟩ : ∃ A : Addr, (A = if cr = j + 1 then adr else ⟨adr.block, adr.off + (j + 1), none⟩) ∧ Hid (∀ t u, (((m.getD k []).drop (j + 1)).map (Value.int .i64))[t]? = some u → wr.cell? (A.add t) = some u) := by
          refine ⟨_, rfl, hid ?_⟩
          intro t u ht
          by_cases hc : cr = j + 1
          · rw [List.getElem?_eq_none (by rw [List.length_map, List.length_drop, HRL.out]; omega)] at ht; cases ht
          · rw [if_neg hc, addr_add_add _ _ _ (Nat.succ_pos j)]
            refine HIR.out.news (j + 1 + t) u ?_
            rw [← ht]; simp
        have HDL := hid (show ((m.getD k []).drop (j + 1)).length = n - j by rw [List.length_drop, HRL.out]; omega)
        have HTL := hid (show ((m.getD k []).take j).length = j by rw [List.length_take, HRL.out]; omega)
        have HDN := hid (show (dropAt j (m.getD k [])).length = n by unfold dropAt; rw [List.length_append, HTL.out, HDL.out]; omega)
        obtain ⟨us, hul, how, hbb, hin, hd⟩ := HO.out
        have HOW := hid how
        have HUL := hid hul
        have HIN := hid hin
        have HD := hid hd
        have hus : us.length ≤ 1048576 := by rw [hul, HHL.out]; unfold laid; split <;> omega
        clear how hin hd hbb hul
        by_cases hcj : cr = j + 1
        · have hnj : n = j := by omega
          subst hnj
          subst hcj
          rw [if_pos rfl] at hA
          rw [hA] at HN
          clear hA A
          have hq1 : (n : Int) ≤ (n : Int) + 1 := by omega
          have hq2 : n ≤ n + 1 := by omega
          go_wp2_with fail
          go_region_held3 (fun _ => True) (trivial) (first | (go_at_call 98; refine (l1Own_any adr n _ ((m.getD k []).take n) _ HTL.out (by omega) ((HIR.out.takes n (by omega) (by omega)).later (Later.drew wr))).mono ?_; rintro e w2 ⟨v2, rfl, ho, hL2⟩; have HO2 := hid ho; have HL2 := hid ((Later.drew wr).trans hL2); clear ho hL2) | (have hh := v3; clear hh; refine step_append_at _ (by rfl) _ _ _ (by rfl) w.heap.size 37 i0 (.slice none 0 0) 1 24 Try.underlying22 hi hz0 hz1 hz2 rfl (by omega) u7 us.length us (by rfl) (by exact HOA.out) _ _ _ [.slice a3 n c3] (by rfl) (by rfl) HNW.out (by simp [Value.oneCell']) (by unfold maxLen; omega) (by omega) HSZ.out ?_; intro v4 w4 hown4 hgrow4; have HW4 := hid (And.intro hown4 hgrow4); clear hown4 hgrow4) | (have hh := v2; clear hh; refine step_append_at _ (by rfl) _ _ _ (by rfl) wr.heap.size 3 ii (.int .i64 0) 1 8 Try.underlying37 hii ii0 ii1 ii2 rfl (by omega) v2 n (((m.getD k []).take n).map (.int .i64)) (by rfl) (by have := HO2.out.1; rw [HTL.out] at this; exact this) _ _ _ (((m.getD k []).drop (n + 1)).map (.int .i64)) (by rfl) (by rw [List.length_map, HDL.out]; omega) (fun t u ht => HL2.out.cell (HN.out t u ht)) (fun u hu => by obtain ⟨x, _, rfl⟩ := List.mem_map.1 hu; rfl) (by unfold maxLen; omega) (by omega) HL2.out.size ?_; intro v3 w3 hown3 hgrow3; have HO3 := hid (OwnInts.of (zs := dropAt n (m.getD k [])) hown3 (by unfold dropAt; rw [List.map_append])); have HL3 : Hid (Later wr w3) := hid (HL2.out.grown hgrow3 HL2.out.size (fun b hb => (HO2.out.1.lt b hb).1)); have sh := HO3.out.shape; rw [HDN.out] at sh; obtain ⟨a3, c3, rfl, _⟩ := sh; have v3 : Nat := 0; have HL4 : Hid (Later wr (w3.alloc (.cells #[Value.slice a3 n c3] 37))) := hid (HL3.out.trans (Later.alloc w3 (.cells #[Value.slice a3 n c3] 37))); have HOA := hid (ownsRow_keep HOW.out (fun b hb => HL4.out.block b (HOW.out.lt b hb).2)); have HNW := hid (World.news_of_block (cs := #[Value.slice a3 n c3]) (t := 37) (fr := (0, 0)) (heap_alloc_new w3 _)); have HSZ := hid (Nat.le_trans HL.out.size HL4.out.size); clear hown3 hgrow3))
          all_goals
            have hp := OwnRows.pushed (r := dropAt n (m.getD k [])) (L := (minorM n m i n).take (laid i k)) HUL.out HOA.out (fun i' hi2 => (HIN.out i' hi2).later HL4.out) HD.out ((HO3.out.later (Later.alloc w3 (.cells #[Value.slice a3 n c3] 37))).wide (Nat.le_refl _) (by simp)) HL.out.size HW4.out.1 HW4.out.2
            have HP := hid hp
            have HL5 : Hid (Later w w4) := hid ((HL.out.trans HL4.out).grown HW4.out.2 (HL.out.trans HL4.out).size (fun b hb => (HOW.out.lt b hb).1))
            clear hp
            go_wp2_with fail
            go_roundw
            case rel => exact ⟨k + 1, hlt, by go_num, by rw [laid_snoc n m i n k hq hi' hj hlt hki]; exact HP.out, HL5.out⟩
            case measure => simp [intOf]; omega
        · rw [if_neg hcj] at hA
          subst hA
          go_wp2_with fail
          go_region_held3 (fun _ => True) (trivial) (first | (go_at_call 98; refine (l1Own_any adr j _ ((m.getD k []).take j) _ HTL.out (by omega) ((HIR.out.takes j (by omega) (by omega)).later (Later.drew wr))).mono ?_; rintro e w2 ⟨v2, rfl, ho, hL2⟩; have HO2 := hid ho; have HL2 := hid ((Later.drew wr).trans hL2); clear ho hL2) | (have hh := v3; clear hh; refine step_append_at _ (by rfl) _ _ _ (by rfl) w.heap.size 37 i0 (.slice none 0 0) 1 24 Try.underlying22 hi hz0 hz1 hz2 rfl (by omega) u7 us.length us (by rfl) (by exact HOA.out) _ _ _ [.slice a3 n c3] (by rfl) (by rfl) HNW.out (by simp [Value.oneCell']) (by unfold maxLen; omega) (by omega) HSZ.out ?_; intro v4 w4 hown4 hgrow4; have HW4 := hid (And.intro hown4 hgrow4); clear hown4 hgrow4) | (have hh := v2; clear hh; refine step_append_at _ (by rfl) _ _ _ (by rfl) wr.heap.size 3 ii (.int .i64 0) 1 8 Try.underlying37 hii ii0 ii1 ii2 rfl (by omega) v2 j (((m.getD k []).take j).map (.int .i64)) (by rfl) (by have := HO2.out.1; rw [HTL.out] at this; exact this) _ _ _ (((m.getD k []).drop (j + 1)).map (.int .i64)) (by rfl) (by rw [List.length_map, HDL.out]; omega) (fun t u ht => HL2.out.cell (HN.out t u ht)) (fun u hu => by obtain ⟨x, _, rfl⟩ := List.mem_map.1 hu; rfl) (by unfold maxLen; omega) (by omega) HL2.out.size ?_; intro v3 w3 hown3 hgrow3; have HO3 := hid (OwnInts.of (zs := dropAt j (m.getD k [])) hown3 (by unfold dropAt; rw [List.map_append])); have HL3 : Hid (Later wr w3) := hid (HL2.out.grown hgrow3 HL2.out.size (fun b hb => (HO2.out.1.lt b hb).1)); have sh := HO3.out.shape; rw [HDN.out] at sh; obtain ⟨a3, c3, rfl, _⟩ := sh; have v3 : Nat := 0; have HL4 : Hid (Later wr (w3.alloc (.cells #[Value.slice a3 n c3] 37))) := hid (HL3.out.trans (Later.alloc w3 (.cells #[Value.slice a3 n c3] 37))); have HOA := hid (ownsRow_keep HOW.out (fun b hb => HL4.out.block b (HOW.out.lt b hb).2)); have HNW := hid (World.news_of_block (cs := #[Value.slice a3 n c3]) (t := 37) (fr := (0, 0)) (heap_alloc_new w3 _)); have HSZ := hid (Nat.le_trans HL.out.size HL4.out.size); clear hown3 hgrow3))
          all_goals
            have hp := OwnRows.pushed (r := dropAt j (m.getD k [])) (L := (minorM n m i j).take (laid i k)) HUL.out HOA.out (fun i' hi2 => (HIN.out i' hi2).later HL4.out) HD.out ((HO3.out.later (Later.alloc w3 (.cells #[Value.slice a3 n c3] 37))).wide (Nat.le_refl _) (by simp)) HL.out.size HW4.out.1 HW4.out.2
            have HP := hid hp
            have HL5 : Hid (Later w w4) := hid ((HL.out.trans HL4.out).grown HW4.out.2 (HL.out.trans HL4.out).size (fun b hb => (HOW.out.lt b hb).1))
            clear hp
            go_wp2_with fail
            go_roundw
            case rel => exact ⟨k + 1, hlt, by go_num, by rw [laid_snoc n m i j k hq hi' hj hlt hki]; exact HP.out, HL5.out⟩
            case measure => simp [intOf]; omega
    · have hkn : k = n + 1 := by omega
      subst hkn
      go_wp2_with fail
      go_ret
      rw [List.take_of_length_le (by rw [(minorM_sq n m i j).1]; unfold laid; split <;> omega)] at hO
      exact ⟨_, rfl, hO, hL⟩
end Go.Proofs.Ytedgccbogjinhaa
