/- IntC, RowsK: in one text. -/
import Derived.Test.YtoaopmafokoaoaaBasB
import Derived.Deep.AppendLies
namespace Go.Proofs.Ytoaopmafokoaoaa
open Go.RowKit


/-- A row of ints whose capacity is not less than its length. -/
def IntsC (w : World) (v : Value) (zs : List Int) : Prop := Ints w v zs ∧ ∀ a n c, v = .slice a n c → n ≤ c
theorem IntsC.later {w w' : World} {v : Value} {zs : List Int} (h : IntsC w v zs) (k : Later w w') : IntsC w' v zs := ⟨h.1.later k, h.2⟩
theorem OwnInts.intsC {lo hi : Nat} {w : World} {v : Value} {zs : List Int} (h : OwnInts lo hi w v zs) : IntsC w v zs := by
  refine ⟨h.ints, fun a n c e => ?_⟩
  obtain ⟨a', c', e', hle⟩ := h.shape
  rw [e] at e'
  simp only [Value.slice.injEq] at e'
  obtain ⟨_, rfl, rfl⟩ := e'
  exact hle
theorem IntsC.addr {w : World} {v : Value} {zs : List Int} (h : IntsC w v zs) (h0 : 0 < zs.length) : ∃ ad cap, v = .slice (some ad) zs.length cap ∧ zs.length ≤ cap := by
  obtain ⟨⟨a, cap, rfl, _, hc⟩, h2⟩ := h
  obtain ⟨ad, rfl, _⟩ := hc 0 h0
  exact ⟨ad, cap, rfl, h2 _ _ _ rfl⟩

/-- append, at a step of a region that draws: nothing appended is borne, too. -/
theorem step_append_atH {P : Program} (w : World) {ops : Array Oper} {o : Oper} {a : Act} {K : Act → World → Prop} {Q : Exit → Act → World → Prop} {E : Prop} (hgd : o.guard = none) (s x : Operand) (t : TypeId)
    (ho : o.op = .call { callee := .builtin .append, args := #[s, x], argTypes := #[t, t] })
    (base : Nat) (e : TypeId) (i : TypeInfo) (z : Value) (size bytes : Nat) (ht : P.underlying t = some (.slice e)) (hi : P.info? e = some i) (hz : i.zero = some z)
    (hsize : i.size = size) (hby : i.bytes = bytes) (hzs : z.cells.size = size) (hsz : 0 < size)
    (v : Value) (n : Nat) (xs : List Value) (hs : a.eval s = v) (hown : w.ownsRow base e size v n xs)
    (ad : Addr) (m c : Nat) (news : List Value) (hx : a.eval x = .slice (some ad) m c) (hl : news.length = m * size) (hnews : ∀ j u, news[j]? = some u → w.cell? (ad.add j) = some u) (h1 : ∀ u ∈ news, u.oneCell' = true)
    (h63 : n + m ≤ maxLen) (hbytes : (n + m) * bytes ≤ 140737488355328) (hbase : base ≤ w.heap.size)
    (h : ∀ v' w', w'.ownsRow base e size v' (n + m) (xs ++ news) → w.grownBy w' v.ownBlock → K (a.put o.dst v') w') :
    if Region.wanted o (yielded ops a.tmps) = true then Oper.wp P o a w K Q else E := by
  have hw : Region.wanted o (yielded ops a.tmps) = true := by simp [Region.wanted, hgd]
  rw [if_pos hw]
  obtain ⟨v', w', hr, h2, h3, _, _⟩ := run_append_own_at (P := P) w base t o.type e i z size bytes ht hi hz hsize hby hzs hsz v n xs hown ad m c news hl hnews h1 h63 hbytes hbase
  unfold Oper.wp execOp
  simp only [ho, resolve, invoke, builtin, Sem.run_bind, Sem.run_pure, Result.andThen_ok, List.map_toArray, List.map_cons, List.map_nil, hs, hx, hr]
  exact h v' w' h2 h3
theorem Ints.newsH {w : World} {ad : Addr} {n c : Nat} {zs : List Int} (h : Ints w (.slice (some ad) n c) zs) : ∀ j u, (zs.map (Value.int .i64))[j]? = some u → w.cell? (ad.add j) = some u := by
  intro j u hj
  obtain ⟨a, cap, hv, _, hc⟩ := h
  simp only [Value.slice.injEq] at hv
  obtain ⟨rfl, _, rfl⟩ := hv
  have hlt : j < zs.length := by
    rcases Nat.lt_or_ge j zs.length with h | h
    · exact h
    · rw [List.getElem?_eq_none (by simpa using h)] at hj; cases hj
  obtain ⟨ad', e, hx⟩ := hc j hlt
  simp only [Option.some.injEq] at e
  subst e
  rw [hx]
  simp [hlt] at hj ⊢
  exact hj
theorem addr_add_addH (a : Addr) (i j : Nat) (hi : 0 < i) : (⟨a.block, a.off + i, none⟩ : Addr).add j = a.add (i + j) := by
  unfold Addr.add
  by_cases hj : j = 0
  · subst hj; simp; omega
  · simp [hj]; omega
theorem Ints.takesH {w : World} {ad : Addr} {n c : Nat} {zs : List Int} (h : Ints w (.slice (some ad) n c) zs) (j : Nat) (hj : j ≤ n) : Ints w (.slice (some ad) j c) (zs.take j) := by
  obtain ⟨a, cap, hv, hl, hc⟩ := h
  simp only [Value.slice.injEq] at hv
  obtain ⟨rfl, rfl, rfl⟩ := hv
  refine ⟨some ad, c, by rw [List.length_take]; simp; omega, by rw [List.length_take]; omega, fun i hi => ?_⟩
  rw [List.length_take] at hi
  obtain ⟨ad', e, hx⟩ := hc i (by omega)
  refine ⟨ad', e, ?_⟩
  rw [hx]
  simp [show i < j by omega]
theorem OwnInts.ofH {lo n : Nat} {w : World} {v : Value} {us : List Value} {zs : List Int} (h : w.ownsRow lo 3 1 v n us) (e : us = zs.map (Value.int .i64)) : OwnInts lo w.heap.size w v zs := by
  subst e
  have hn : n = zs.length := by have := h.1; simpa using this.symm
  subst hn
  exact ⟨h, fun b hb => (h.lt b hb).2⟩

set_option maxHeartbeats 400000 in
theorem l1OwnH_any (ad : Addr) (n c : Nat) (zs : List Int) (w : World) (hz : zs.length = n) (hb : n ≤ 1048576) (h : Ints w (.slice (some ad) n c) zs) :
    Calls Try.prog 56 #[.slice (some ad) n c] w fun e w' => MadeInts w zs e w' := by
  obtain ⟨i0, hi, hz0, hz1, hz2⟩ := info_parts Try.infoInt
  have HN := hid (h.later (Later.alloc w (.cells #[] 3))).newsH
  have hown : (w.alloc (.cells #[] 3)).ownsRow w.heap.size 3 1 (.slice (some ⟨w.heap.size, 0, none⟩) 0 0) 0 [] := by
    refine ⟨rfl, .inr ⟨w.heap.size, 0, #[], rfl, Nat.le_refl _, heap_alloc_new w _, Nat.le_refl _, by omega, by simp, by simp⟩⟩
  have HOW := hid hown
  clear hown h
  go_enter Try.func56, Try.ntmps56
  go_wp2_with (at_builtin; refine wpList_append_own_at _ (by rfl) _ _ _ (by rfl) w.heap.size 3 i0 (.int .i64 0) 1 8 Try.underlying24 hi hz0 hz1 hz2 rfl (by omega) (.slice (some ⟨w.heap.size, 0, none⟩) 0 0) 0 [] (by rfl) (by exact HOW.out) ad n c (zs.map (.int .i64)) (by rfl) (by simp [hz]) HN.out (by simp [Value.oneCell']) (by unfold maxLen; omega) (by omega) (by simp) ?_)
  intro v1 w1 hown1 hgrow _ _
  have hL : Later w w1 := (Later.alloc w (.cells #[] 3)).grown hgrow (by simp) (fun b hb => by simp [Value.ownBlock] at hb; omega)
  have HO : Hid (OwnInts w.heap.size w1.heap.size w1 v1 zs) := hid ⟨by rw [hz]; simpa using hown1, fun b hb => (hown1.lt b hb).2⟩
  clear hown1 hgrow
  go_wp2_with fail
  go_ret
  exact ⟨_, rfl, HO.out, hL⟩


theorem OwnRows.partsH {lo hi : Nat} {w : World} {v : Value} {L : List (List Int)} (h : OwnRows lo hi w v L) : ∃ us : List Value, us.length = L.length ∧ w.ownsRow lo 24 1 v us.length us ∧ (∀ k, v.ownBlock = some k → k < hi) ∧
    (∀ i, i < L.length → OwnInts lo hi w (us.getD i undef) (L.getD i [])) ∧
    ∀ i j, i < j → j < L.length → ∀ k, (us.getD i undef).ownBlock = some k → (us.getD j undef).ownBlock ≠ some k := h
/-- one row of its own -/
theorem OwnRows.oneH {lo : Nat} {w : World} {u : Value} {r : List Int} (hlo : lo ≤ w.heap.size) (h : OwnInts lo w.heap.size w u r) :
    OwnRows lo (w.heap.size + 1) (w.alloc (.cells #[u] 24)) (.slice (some ⟨w.heap.size, 0, none⟩) 1 1) [r] := by
  have ho := World.ownsRow_lit (e := 24) (size := 1) w #[u] 1 (Nat.le_refl _) (by unfold maxLen; omega) (by simp)
  refine ⟨[u], rfl, by simpa using ownsRow_base ho hlo, fun b hb => by simp [Value.ownBlock] at hb; omega, fun i hi => ?_, fun i j hij hj => by simp at hj; omega⟩
  have h0 : i = 0 := by simpa using hi
  subst h0
  exact (h.later (Later.alloc _ _)).wide (Nat.le_refl _) (by omega)
/-- a row of ints stays where a row of rows grows -/
theorem OwnInts.keptH {lo hi lo' n : Nat} {w w1 : World} {v u : Value} {zs : List Int} {us : List Value} (h : OwnInts lo hi w u zs) (ho : w.ownsRow lo' 24 1 v n us) (hg : w.grownBy w1 v.ownBlock) : OwnInts lo hi w1 u zs := by
  refine ⟨ownsRow_keep h.1 fun b hb => hg.block b (h.1.lt b hb).2 fun e => ?_, h.2⟩
  obtain ⟨c2, hc2⟩ := ownsRow_block ho e.symm
  exact h.ne hc2 hb
def lenOfH : Value → Nat
  | .slice _ n _ => n
  | _ => 0
theorem OwnRows.noneH (lo hi : Nat) (w : World) : OwnRows lo hi w (.slice none 0 0) [] :=
  ⟨[], rfl, World.ownsRow_nil _ _ _ _, fun b hb => by simp [Value.ownBlock] at hb, fun i hi => absurd hi (Nat.not_lt_zero i), fun i j _ hj => absurd hj (Nat.not_lt_zero j)⟩
end Go.Proofs.Ytoaopmafokoaoaa
