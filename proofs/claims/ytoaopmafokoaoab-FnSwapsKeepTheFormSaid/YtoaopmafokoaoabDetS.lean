/- Contracts of determinants: the model's. -/
import Derived.Test.YtoaopmafokoaoabDet
import Derived.Deep.AppendLies
namespace Go.Proofs.Ytoaopmafokoaoab
open Go.RowKit

/-- append, at a step of a region that draws: nothing appended is borne, too. -/
theorem step_append_at {P : Program} (w : World) {ops : Array Oper} {o : Oper} {a : Act} {K : Act → World → Prop} {Q : Exit → Act → World → Prop} {E : Prop} (hgd : o.guard = none) (s x : Operand) (t : TypeId)
    (ho : o.op = .call { callee := .builtin .append, args := #[s, x], argTypes := #[t, t] })
    (base : Nat) (e : TypeId) (i : TypeInfo) (z : Value) (size bytes : Nat) (ht : P.underlying t = some (.slice e)) (hi : P.info? e = some i) (hz : i.zero = some z)
    (hsize : i.size = size) (hby : i.bytes = bytes) (hzs : z.cells.size = size) (hsz : 0 < size)
    (v : Value) (n : Nat) (xs : List Value) (hs : a.eval s = v) (hown : w.ownsRow base e size v n xs)
    (ad : Addr) (m c : Nat) (news : List Value) (hx : a.eval x = .slice (some ad) m c) (hl : news.length = m * size) (hnews : ∀ j u, news[j]? = some u → w.cell? (ad.add j) = some u) (h1 : ∀ u ∈ news, u.oneCell' = true)
    (h63 : n + m ≤ maxLen) (hbytes : (n + m) * bytes ≤ 140737488355328) (hbase : base ≤ w.heap.size)
    (h : ∀ v' w', w'.ownsRow base e size v' (n + m) (xs ++ news) → w.grownBy w' v.ownBlock → K (a.put o.dst v') w') :
    if Region.wanted o (yielded ops a.tmps) = true then Oper.wp P o a w K Q else E := by
  have hw : Region.wanted o (yielded ops a.tmps) = true := by simp [Region.wanted, hgd]
  rw [if_pos hw]
  obtain ⟨v', w', hr, h2, h3, _, _⟩ := run_append_own_at (P := P) w base t o.type e i z size bytes ht hi hz hsize hby hzs hsz v n xs hown ad m c news hl hnews h1 h63 hbytes hbase
  unfold Oper.wp execOp
  simp only [ho, resolve, invoke, builtin, Sem.run_bind, Sem.run_pure, Result.andThen_ok, List.map_toArray, List.map_cons, List.map_nil, hs, hx, hr]
  exact h v' w' h2 h3

theorem Ints.news {w : World} {ad : Addr} {n c : Nat} {zs : List Int} (h : Ints w (.slice (some ad) n c) zs) : ∀ j u, (zs.map (Value.int .i64))[j]? = some u → w.cell? (ad.add j) = some u := by
  intro j u hj
  obtain ⟨a, cap, hv, _, hc⟩ := h
  simp only [Value.slice.injEq] at hv
  obtain ⟨rfl, _, rfl⟩ := hv
  have hlt : j < zs.length := by
    rcases Nat.lt_or_ge j zs.length with h | h
    · exact h
    · rw [List.getElem?_eq_none (by simpa using h)] at hj; cases hj
  obtain ⟨ad', e, hx⟩ := hc j hlt
  simp only [Option.some.injEq] at e
  subst e
  rw [hx]
  simp [hlt] at hj ⊢
  exact hj

theorem addr_add_add (a : Addr) (i j : Nat) (hi : 0 < i) : (⟨a.block, a.off + i, none⟩ : Addr).add j = a.add (i + j) := by
  unfold Addr.add
  by_cases hj : j = 0
  · subst hj; simp; omega
  · simp [hj]; omega

theorem Ints.takes {w : World} {ad : Addr} {n c : Nat} {zs : List Int} (h : Ints w (.slice (some ad) n c) zs) (j : Nat) (hj : j ≤ n) (hc' : n ≤ 9223372036854775807) : Ints w (.slice (some ad) j c) (zs.take j) := by
  obtain ⟨a, cap, hv, hl, hc⟩ := h
  simp only [Value.slice.injEq] at hv
  obtain ⟨rfl, rfl, rfl⟩ := hv
  refine ⟨some ad, c, by rw [List.length_take]; simp; omega, by rw [List.length_take]; omega, fun i hi => ?_⟩
  rw [List.length_take] at hi
  obtain ⟨ad', e, hx⟩ := hc i (by omega)
  refine ⟨ad', e, ?_⟩
  rw [hx]
  simp [show i < j by omega]

set_option maxHeartbeats 400000 in
theorem l1Own_any (ad : Addr) (n c : Nat) (zs : List Int) (w : World) (hz : zs.length = n) (hb : n ≤ 1048576) (h : Ints w (.slice (some ad) n c) zs) :
    Calls Try.prog 83 #[.slice (some ad) n c] w fun e w' => MadeInts w zs e w' := by
  obtain ⟨i0, hi, hz0, hz1, hz2⟩ := info_parts Try.infoInt
  have HN := hid (h.later (Later.alloc w (.cells #[] 3))).news
  have hown : (w.alloc (.cells #[] 3)).ownsRow w.heap.size 3 1 (.slice (some ⟨w.heap.size, 0, none⟩) 0 0) 0 [] := by
    refine ⟨rfl, .inr ⟨w.heap.size, 0, #[], rfl, Nat.le_refl _, heap_alloc_new w _, Nat.le_refl _, by omega, by simp, by simp⟩⟩
  have HOW := hid hown
  clear hown h
  go_enter Try.func83, Try.ntmps83
  go_wp2_with (at_builtin; refine wpList_append_own_at _ (by rfl) _ _ _ (by rfl) w.heap.size 3 i0 (.int .i64 0) 1 8 Try.underlying24 hi hz0 hz1 hz2 rfl (by omega) (.slice (some ⟨w.heap.size, 0, none⟩) 0 0) 0 [] (by rfl) (by exact HOW.out) ad n c (zs.map (.int .i64)) (by rfl) (by simp [hz]) HN.out (by simp [Value.oneCell']) (by unfold maxLen; omega) (by omega) (by simp) ?_)
  intro v1 w1 hown1 hgrow _ _
  have hL : Later w w1 := (Later.alloc w (.cells #[] 3)).grown hgrow (by simp) (fun b hb => by simp [Value.ownBlock] at hb; omega)
  have HO : Hid (OwnInts w.heap.size w1.heap.size w1 v1 zs) := hid ⟨by rw [hz]; simpa using hown1, fun b hb => (hown1.lt b hb).2⟩
  clear hown1 hgrow
  go_wp2_with fail
  go_ret
  exact ⟨_, rfl, HO.out, hL⟩

/-- the rows' capacities are not less than their lengths -/
def Caps (w : World) (v : Value) (zss : List (List Int)) : Prop := ∀ i, i < zss.length → ∀ ad n cap a2 c2, v = .slice (some ad) n cap → w.cell? (ad.add i) = some (.slice a2 (zss.getD i []).length c2) → (zss.getD i []).length ≤ c2
def RowsC (w : World) (v : Value) (zss : List (List Int)) : Prop := Rows2 w v zss ∧ Caps w v zss
theorem RowsC.later {w w' : World} {v : Value} {zss : List (List Int)} (h : RowsC w v zss) (k : Later w w') : RowsC w' v zss := by
  refine ⟨h.1.later k, fun i hi ad n cap a2 c2 hv hc => ?_⟩
  obtain ⟨a, cap', e, _, hx⟩ := h.1
  obtain ⟨ad', u, rfl, hu, hin⟩ := hx i hi
  rw [hv] at e
  simp only [Value.slice.injEq, Option.some.injEq] at e
  obtain ⟨rfl, rfl, rfl⟩ := e
  have := k.cell hu
  rw [hc] at this
  simp only [Option.some.injEq] at this
  subst this
  exact h.2 i hi ad _ _ a2 c2 hv hu
theorem OwnRows.rowsC {w : World} {lo hi : Nat} {v : Value} {zss : List (List Int)} (h : OwnRows lo hi w v zss) : RowsC w v zss := by
  refine ⟨h.rows, fun i hi' ad n cap a2 c2 hv hc => ?_⟩
  obtain ⟨g, cap', u, hv', hcu, hu, _⟩ := h.row hi'
  rw [hv] at hv'
  simp only [Value.slice.injEq, Option.some.injEq] at hv'
  obtain ⟨rfl, rfl, rfl⟩ := hv'
  rw [hc] at hcu
  simp only [Option.some.injEq] at hcu
  subst hcu
  obtain ⟨a, c, e, hle⟩ := hu.shape
  simp only [Value.slice.injEq] at e
  obtain ⟨_, _, rfl⟩ := e
  exact hle
def dropAt (j : Nat) (r : List Int) : List Int := r.take j ++ r.drop (j + 1)
theorem minorRow (n : Nat) (m : List (List Int)) (hq : Sq (n + 1) m) (i j t : Nat) (ht : t < n) (hj : j ≤ n) : (minorM n m i j).getD t [] = dropAt j (m.getD (skip i t) []) := by
  unfold minorM dropAt
  rw [mk_row n _ t ht]
  have hl := hq.2 (skip i t) (skip_lt ht)
  apply List.ext_getElem
  · simp only [List.length_map, List.length_range, List.length_append, List.length_take, List.length_drop, hl]; omega
  · intro k h1 h2
    have hk : k < n := by simpa using h1
    simp only [List.getElem_map, List.getElem_range, ent]
    by_cases hkj : k < j
    · rw [List.getElem_append_left (by rw [List.length_take]; omega)]
      rw [show skip j k = k by unfold skip; rw [if_neg (by omega)], List.getElem_take, getD_at _ _ (by omega)]
    · rw [List.getElem_append_right (by rw [List.length_take]; omega)]
      rw [show skip j k = k + 1 by unfold skip; rw [if_pos (by omega)], getD_at _ _ (by omega)]
      simp only [List.getElem_drop, List.length_take, hl]
      congr 1
      omega

theorem OwnInts.of {lo n : Nat} {w : World} {v : Value} {us : List Value} {zs : List Int} (h : w.ownsRow lo 3 1 v n us) (e : us = zs.map (Value.int .i64)) : OwnInts lo w.heap.size w v zs := by
  subst e
  have hn : n = zs.length := by have := h.1; simpa using this.symm
  subst hn
  exact ⟨h, fun b hb => (h.lt b hb).2⟩

/-- rows of a minor that are laid before row k -/
def laid (i k : Nat) : Nat := if k ≤ i then k else k - 1

theorem laid_snoc (n : Nat) (m : List (List Int)) (i j k : Nat) (hq : Sq (n + 1) m) (hi : i ≤ n) (hj : j ≤ n) (hk : k < n + 1) (hki : ¬ k = i) :
    (minorM n m i j).take (laid i (k + 1)) = (minorM n m i j).take (laid i k) ++ [dropAt j (m.getD k [])] := by
  have e : laid i (k + 1) = laid i k + 1 := by unfold laid; split <;> split <;> omega
  have hl : laid i k < n := by unfold laid; split <;> omega
  have hs : skip i (laid i k) = k := by unfold skip laid; split <;> split <;> omega
  have hlen : (minorM n m i j).length = n := (minorM_sq n m i j).1
  rw [e, take_snoc _ _ (by rw [hlen]; exact hl)]
  have := minorRow n m hq i j (laid i k) hl hj
  rw [hs, getD_row _ _ (by rw [hlen]; exact hl)] at this
  rw [this]

end Go.Proofs.Ytoaopmafokoaoab
