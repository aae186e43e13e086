/- CgN, CgC, CgM: in one text. -/
import Derived.Test.YtljikcajfmnnmabUpCb
import Derived.Laws.OwnMore
import Derived.Test.YtljikcajfmnnmabUpD
import Derived.Test.YtljikcajfmnnmabUpCc
import Derived.Test.YtljikcajfmnnmabUpCa
import Derived.Test.YtljikcajfmnnmabUpQc
namespace Go.Proofs.Ytljikcajfmnnmab
open Go.RowKit


def nodeVs (nd : CNode) : List Value := ciCells nd.1 ++ [.int .i64 nd.2]
def nodeV (nd : CNode) : Array Value := (nodeVs nd).toArray
def nodeCells (Q : List CNode) : List Value := Q.flatMap nodeVs
theorem nodeVs_len {nd : CNode} (h : nd.1.length = 4) : (nodeVs nd).length = 17 := by unfold nodeVs; simp [ciCells_len, h]
theorem nodeV_size {nd : CNode} (h : nd.1.length = 4) : (nodeV nd).size = 17 := by unfold nodeV; simpa using nodeVs_len h
theorem nodeVs_one (nd : CNode) : ∀ v ∈ nodeVs nd, v.oneCell' = true := by
  intro v hv
  unfold nodeVs at hv
  rw [List.mem_append] at hv
  rcases hv with hv | hv
  · exact one_ci _ v hv
  · simp at hv; subst hv; rfl
theorem nodeCells_snoc (Q : List CNode) (nd : CNode) : nodeCells (Q ++ [nd]) = nodeCells Q ++ nodeVs nd := by simp [nodeCells]
theorem nodeCells_len (Q : List CNode) (h : ∀ nd ∈ Q, nd.1.length = 4) : (nodeCells Q).length = Q.length * 17 := by
  induction Q with
  | nil => rfl
  | cons nd Q ih =>
    have h1 := nodeVs_len (h nd (by simp))
    have h2 := ih (fun x hx => h x (by simp [hx]))
    simp only [nodeCells, List.flatMap_cons, List.length_append, List.length_cons] at *
    omega
theorem nodeCells_at (Q : List CNode) (h : ∀ nd ∈ Q, nd.1.length = 4) (k : Nat) (hk : k < Q.length) (j : Nat) (hj : j < 17) : (nodeCells Q)[k * 17 + j]? = (nodeVs Q[k])[j]? := by
  induction Q generalizing k with
  | nil => simp at hk
  | cons nd Q ih =>
    have h1 := nodeVs_len (h nd (by simp))
    simp only [nodeCells, List.flatMap_cons]
    cases k with
    | zero => rw [List.getElem?_append_left (by omega)]; simp
    | succ k =>
      rw [List.getElem?_append_right (by omega), show (k + 1) * 17 + j - (nodeVs nd).length = k * 17 + j by omega]
      exact ih (fun x hx => h x (by simp [hx])) k (by simpa using hk)
theorem build_node (L : List Ci4) (hl : L.length = 4) (z : Value) :
    (Array.foldl (fun (cs : Array Value) (x : Value × Nat) => cs.setIfInBounds x.snd x.fst) #[.int .i64 0, .int .i64 0, .int .i64 0, .int .i64 0, .int .i64 0, .int .i64 0, .int .i64 0, .int .i64 0, .int .i64 0, .int .i64 0, .int .i64 0, .int .i64 0, .int .i64 0, .int .i64 0, .int .i64 0, .int .i64 0, .int .i64 0] (kA L).zipIdx 0 (kA L).size).setIfInBounds 16 z = (ciCells L ++ [z]).toArray := by
  obtain ⟨⟨a0, a1, a2, a3⟩, ⟨b0, b1, b2, b3⟩, ⟨c0, c1, c2, c3⟩, ⟨d0, d1, d2, d3⟩, rfl⟩ := four_of L hl
  kernel_rfl
theorem fold_node (L : List Ci4) (hl : L.length = 4) (z : Int) :
    Array.foldl (fun (cs : Array Value) (x : Value × Nat) => cs.setIfInBounds x.snd x.fst) #[.int .i64 0, .int .i64 0, .int .i64 0, .int .i64 0, .int .i64 0, .int .i64 0, .int .i64 0, .int .i64 0, .int .i64 0, .int .i64 0, .int .i64 0, .int .i64 0, .int .i64 0, .int .i64 0, .int .i64 0, .int .i64 0, .int .i64 0] (nodeV (L, z)).zipIdx 0 17 = nodeV (L, z) := by
  obtain ⟨⟨a0, a1, a2, a3⟩, ⟨b0, b1, b2, b3⟩, ⟨c0, c1, c2, c3⟩, ⟨d0, d1, d2, d3⟩, rfl⟩ := four_of L hl
  kernel_rfl
/-- a block that holds a node -/
def NBlk (w : World) (B : Nat) (nd : CNode) : Prop := w.heap[B]? = some (.cells (nodeV nd) 85 (0, 0))
theorem NBlk.new (w : World) (nd : CNode) : NBlk (w.alloc (.cells (nodeV nd) 85)) w.heap.size nd := heap_alloc_new w _
theorem NBlk.lt {w : World} {B : Nat} {nd : CNode} (h : NBlk w B nd) : B < w.heap.size := (Array.getElem?_eq_some_iff.1 h).1
theorem NBlk.later {w w' : World} {B : Nat} {nd : CNode} (h : NBlk w B nd) (k : Later w w') : NBlk w' B nd := (k.block B h.lt).trans h
theorem NBlk.cell {w : World} {B : Nat} {nd : CNode} (h : NBlk w B nd) (i : Nat) : w.cell? ⟨B, i, none⟩ = (nodeVs nd)[i]? := by
  have := cell_of_row w B i (nodeV nd) 85 (0, 0) h
  rw [this]; simp [nodeV]
theorem NBlk.load4 {w : World} {B : Nat} {nd : CNode} (h : NBlk w B nd) (hl : nd.1.length = 4) : Sem.run Try.prog (loadCells ⟨B, 0, none⟩ 16) w = .ok (kA nd.1) w := by
  have := run_loadCells_list (P := Try.prog) w ⟨B, 0, none⟩ (ciCells nd.1) (fun j v hj => by
    rw [addr_add0, h.cell j, ← hj]
    unfold nodeVs
    have hlt := (List.getElem?_eq_some_iff.1 hj).1
    rw [List.getElem?_append_left hlt])
  rw [ciCells_len, hl] at this
  exact this
theorem NBlk.last {w : World} {B : Nat} {nd : CNode} (h : NBlk w B nd) (hl : nd.1.length = 4) : w.cell? ⟨B, 16, none⟩ = some (.int .i64 nd.2) := by
  rw [h.cell 16]
  unfold nodeVs
  rw [List.getElem?_append_right (by rw [ciCells_len, hl]; omega), ciCells_len, hl]
  rfl
def OwnNodes (lo hi : Nat) (w : World) (v : Value) (Q : List CNode) : Prop :=
  w.ownsRow lo 85 17 v Q.length (nodeCells Q) ∧ ∀ k, v.ownBlock = some k → k < hi
theorem OwnNodes.later {lo hi : Nat} {w w' : World} {v : Value} {Q : List CNode} (h : OwnNodes lo hi w v Q) (k : Later w w') : OwnNodes lo hi w' v Q :=
  ⟨ownsRow_keep4 h.1 fun b hb => k.block b (h.1.lt b hb).2, h.2⟩
theorem OwnNodes.form {lo hi : Nat} {w : World} {v : Value} {Q : List CNode} (h : OwnNodes lo hi w v Q) (h0 : 0 < Q.length) : ∃ g cap, v = .slice (some ⟨g, 0, none⟩) Q.length cap := by
  rcases h.1.2 with ⟨rfl, e⟩ | ⟨g, cap, cur, rfl, _⟩
  · omega
  · exact ⟨g, cap, rfl⟩
theorem OwnNodes.load {lo hi g n cap : Nat} {w : World} {Q : List CNode} (h : OwnNodes lo hi w (.slice (some ⟨g, 0, none⟩) n cap) Q) (hn : n = Q.length) (hq : ∀ nd ∈ Q, nd.1.length = 4) (k : Nat) (hk : k < Q.length) :
    Sem.run Try.prog (loadCells ⟨g, k * 17, none⟩ 17) w = .ok (nodeV Q[k]) w := by
  subst hn
  have hl := nodeVs_len (hq Q[k] (List.getElem_mem hk))
  have := run_loadCells_list (P := Try.prog) w ⟨g, k * 17, none⟩ (nodeVs Q[k]) (fun j v hj => by
    have hlt := (List.getElem?_eq_some_iff.1 hj).1
    rw [show (⟨g, k * 17, none⟩ : Addr).add j = ⟨g, k * 17 + j, none⟩ by unfold Addr.add; split <;> simp_all, h.1.cellAt (k * 17 + j) (by omega), nodeCells_at Q hq k hk j (by omega), hj])
  rw [hl] at this
  exact this
theorem Try.infoBr : (Try.prog.info? 85).map (fun i => (i.zero, i.size, i.bytes)) = some (some (.agg #[.int .i64 0, .int .i64 0, .int .i64 0, .int .i64 0, .int .i64 0, .int .i64 0, .int .i64 0, .int .i64 0, .int .i64 0, .int .i64 0, .int .i64 0, .int .i64 0, .int .i64 0, .int .i64 0, .int .i64 0, .int .i64 0, .int .i64 0]), 17, 136) := by kernel_rfl
theorem NBlk.far {w w' : World} {B : Nat} {nd : CNode} (h : NBlk w B nd) {u : Value} (hg : w.grownBy w' u.ownBlock) (hne : u.ownBlock ≠ some B) : NBlk w' B nd := (hg.block B h.lt (fun e => hne e.symm)).trans h
theorem ownsRow_blockN {w : World} {lo sz n b : Nat} {e : TypeId} {v : Value} {xs : List Value} (h : w.ownsRow lo e sz v n xs) (hb : v.ownBlock = some b) : ∃ c, w.heap[b]? = some (.cells c e (0, 0)) := by
  rcases h.2 with ⟨rfl, _⟩ | ⟨g, cap, cur, rfl, _, hg, _⟩
  · simp [Value.ownBlock] at hb
  · simp only [Value.ownBlock, Option.some.injEq] at hb
    subst hb
    exact ⟨cur, hg⟩
theorem OwnCis.not_node {lo hi B : Nat} {w : World} {v : Value} {L : List Ci4} {nd : CNode} (h : OwnCis lo hi w v L) (hB : NBlk w B nd) : v.ownBlock ≠ some B := by
  intro e
  obtain ⟨c, hc⟩ := ownsRow_blockN h.1 e
  rw [hB] at hc
  simp at hc
theorem OwnCis.not_conf {lo hi B : Nat} {w : World} {v : Value} {L M : List Ci4} (h : OwnCis lo hi w v L) (hB : KBlk w B M) : v.ownBlock ≠ some B := by
  intro e
  obtain ⟨c, hc⟩ := ownsRow_blockN h.1 e
  rw [hB] at hc
  simp at hc
/-- two rows of two types lie in two blocks -/
theorem rows_apart {w : World} {lo lo' s s' n n' : Nat} {e e' : TypeId} {v v' : Value} {xs xs' : List Value} (h : w.ownsRow lo e s v n xs) (h' : w.ownsRow lo' e' s' v' n' xs') (he : e ≠ e') (b : Nat) (hb : v.ownBlock = some b) : v'.ownBlock ≠ some b := by
  intro hb'
  rcases h.2 with ⟨rfl, _⟩ | ⟨g, cap, cur, rfl, _, hg, _⟩
  · simp [Value.ownBlock] at hb
  · rcases h'.2 with ⟨rfl, _⟩ | ⟨g', cap', cur', rfl, _, hg', _⟩
    · simp [Value.ownBlock] at hb'
    · simp only [Value.ownBlock, Option.some.injEq] at hb hb'
      subst hb hb'
      rw [hg] at hg'
      simp only [Option.some.injEq, Obj.cells.injEq] at hg'
      exact he hg'.2.1
theorem ownsRow_far {w w' : World} {lo s n : Nat} {e : TypeId} {v u : Value} {xs : List Value} (h : w.ownsRow lo e s v n xs) (hg : w.grownBy w' u.ownBlock) (hne : ∀ b, v.ownBlock = some b → u.ownBlock ≠ some b) : w'.ownsRow lo e s v n xs :=
  ownsRow_keep4 h fun b hb => hg.block b (h.lt b hb).2 (fun e => hne b hb e.symm)
theorem OwnNodes.shape {lo hi : Nat} {w : World} {v : Value} {Q : List CNode} (h : OwnNodes lo hi w v Q) : ∃ a cap, v = .slice a Q.length cap := by
  rcases h.1.2 with ⟨rfl, e⟩ | ⟨g, cap, cur, rfl, _⟩
  · exact ⟨none, 0, by rw [e]⟩
  · exact ⟨_, cap, rfl⟩
theorem OwnNodes.wide {w : World} {lo hi hi' : Nat} {v : Value} {Q : List CNode} (h : OwnNodes lo hi w v Q) (hh : hi ≤ hi') : OwnNodes lo hi' w v Q := ⟨h.1, fun k hk => Nat.lt_of_lt_of_le (h.2 k hk) hh⟩
def zN : CNode := ([c00, c00, c00, c00], 0)
theorem zN_new (w : World) : NBlk (w.alloc (.cells #[.int .i64 0, .int .i64 0, .int .i64 0, .int .i64 0, .int .i64 0, .int .i64 0, .int .i64 0, .int .i64 0, .int .i64 0, .int .i64 0, .int .i64 0, .int .i64 0, .int .i64 0, .int .i64 0, .int .i64 0, .int .i64 0, .int .i64 0] 85)) w.heap.size zN := NBlk.new w zN
theorem NBlk.store {w : World} {B : Nat} {nd nd' : CNode} (h : NBlk w B nd) (hl : nd.1.length = 4) (hl' : nd'.1.length = 4) : Sem.run Try.prog (storeVar 85 ⟨B, 0, none⟩ (.agg (nodeV nd'))) w = .ok () (w.setRow B (nodeV nd')) := by
  have h1 := run_storeCells_at Try.prog B 0 85 (nodeVs nd') 0 (nodeV nd) w h (by rw [nodeV_size hl, nodeVs_len hl']; omega) (nodeVs_one nd')
  have e : ((nodeV nd).toList.take (0 + 0) ++ nodeVs nd' ++ (nodeV nd).toList.drop (0 + 0 + (nodeVs nd').length)).toArray = nodeV nd' := by
    rw [List.drop_of_length_le (by rw [Array.length_toList, nodeV_size hl, nodeVs_len hl']; omega)]
    simp [nodeV]
  rw [e] at h1
  unfold storeVar
  have hsz : (Value.agg (nodeV nd')).cells.size = 17 := nodeV_size hl'
  simp only [Sem.run_bind, Try.sizeOf85, Result.andThen_ok, hsz]
  simpa [Value.cells, nodeV] using h1
theorem NBlk.set {w : World} {B : Nat} {nd : CNode} (h : NBlk w B nd) (nd' : CNode) : NBlk (w.setRow B (nodeV nd')) B nd' := setRow_heap w B (nodeV nd) (nodeV nd') 85 (0, 0) h
theorem Pend.len4 {most : Int} {xs : List CNode} {m : Nat} (h : Pend most xs m) : ∀ nd ∈ xs, nd.1.length = 4 := by
  induction h with
  | nil => intro nd hn; cases hn
  | cons hd _ ih =>
    intro nd hn
    rcases List.mem_cons.1 hn with rfl | hn
    · rcases hd with ⟨_, _, h0⟩ | ⟨l, _, hS⟩
      · exact h0.len
      · exact hS.len
    · exact ih nd hn
theorem Dep.big {most : Int} {n : Nat} {nd : CNode} (h : Dep most n nd) : BdL 1000000000000000 nd.1 := by
  intro i hi
  rcases h with ⟨_, _, h0⟩ | ⟨l, _, hS⟩
  · exact bd_mono (h0.bd i hi) (by omega)
  · refine bd_mono (hS.bd i hi) ?_
    have hp : ∀ n, n ≤ 8 → (7 : Int) ^ n ≤ 5764801 := by decide
    have := hp n hS.n1.2
    omega
theorem bfs_nil (most : Int) (f : Nat) : bfsT most f [] = [] := by cases f <;> rfl
theorem bfs_cons (most : Int) (f : Nat) (nd : CNode) (rest : List CNode) : bfsT most (f + 1) (nd :: rest) = newsTo most nd 4 ++ bfsT most f (rest ++ kidsTo most nd 4) := rfl
theorem news_no {most : Int} {nd : CNode} {k : Nat} (h : ¬ ((k : Int) ≠ nd.2 ∧ ciTold most (ciNew nd.1 k) = true)) : newsTo most nd (k + 1) = newsTo most nd k ∧ kidsTo most nd (k + 1) = kidsTo most nd k := by
  simp only [newsTo, kidsTo, newAt, kidAt, if_neg h, List.append_nil, and_self]
theorem news_yes {most : Int} {nd : CNode} {k : Nat} (h : (k : Int) ≠ nd.2 ∧ ciTold most (ciNew nd.1 k) = true) : newsTo most nd (k + 1) = newsTo most nd k ++ [ciNew nd.1 k] ∧ kidsTo most nd (k + 1) = kidsTo most nd k ++ [(ciSwL nd.1 k, (k : Int))] := by
  simp only [newsTo, kidsTo, newAt, kidAt, if_pos h, and_self]
theorem kids_len4 {most : Int} {nd : CNode} (h : nd.1.length = 4) (k : Nat) : ∀ x ∈ kidsTo most nd k, x.1.length = 4 := by
  induction k with
  | zero => intro x hx; cases hx
  | succ k ih =>
    intro x hx
    simp only [kidsTo, List.mem_append] at hx
    rcases hx with hx | hx
    · exact ih x hx
    · unfold kidAt at hx
      split at hx
      · simp at hx; subst hx; exact swL_len4 _ _ h
      · cases hx


def toldTo (most : Int) (L : List Ci4) (k : Nat) : List Ci4 := (L.take k).filter (ciTold most)
theorem toldTo_step (most : Int) (L : List Ci4) (k : Nat) (h : k < L.length) : toldTo most L (k + 1) = if ciTold most (L.getD k c00) = true then toldTo most L k ++ [L.getD k c00] else toldTo most L k := by
  unfold toldTo
  rw [List.take_succ_eq_append_getElem h, List.filter_append, show L.getD k c00 = L[k] by simp [h]]
  by_cases hb : ciTold most L[k] = true
  · rw [if_pos hb, List.filter_cons_of_pos hb, List.filter_nil]
  · rw [if_neg hb, List.filter_cons_of_neg hb, List.filter_nil, List.append_nil]
theorem toldTo_len (most : Int) (L : List Ci4) (k : Nat) : (toldTo most L k).length ≤ k := by
  unfold toldTo
  exact Nat.le_trans (List.length_filter_le _ _) (by rw [List.length_take]; omega)
def upR (L : List Ci4) (most : Int) : List Ci4 := toldTo most L 4 ++ bfsT most 13121 [(L, -1)]
def upOk (L : List Ci4) (most : Int) : Bool := confB L && (within 1 60 most && insideB (curvL L))
def upAns (L : List Ci4) (most : Int) : Option (List Ci4) := if upOk L most = true ∧ (upR L most).length ≤ 300 ∧ (upR L most).all ciB = true then some (upR L most) else none
theorem upAns_len (L : List Ci4) (most : Int) : ((upAns L most).getD []).length ≤ 1000000000000 := by
  unfold upAns
  split
  · rename_i h; simp only [Option.getD_some]; omega
  · simp
theorem mn_ge (zs : List Int) (m : Int) : ∀ k, (∀ j, j < k ∨ j = 0 → m ≤ zs.getD j 0) → m ≤ mnTo zs k
  | 0, h => h 0 (.inr rfl)
  | k + 1, h => by
    have ih := mn_ge zs m k (fun j hj => h j (by omega))
    unfold mnTo
    split
    · exact h k (by omega)
    · exact ih
theorem mul_self_nn (x : Int) : 0 ≤ x * x := by
  rcases Int.le_total 0 x with h | h
  · exact Int.mul_nonneg h h
  · exact Int.mul_nonneg_of_nonpos_of_nonpos h h
theorem two_of_quad {a b c d : Int} (hs : 0 < a + b + c + d) (he : 2 * (a * a + b * b + c * c + d * d) = (a + b + c + d) * (a + b + c + d)) (hm : a < 0 ∨ b < 0 ∨ c < 0 ∨ d < 0) : 1 ≤ a + b := by
  have key : (a - b) * (a - b) + (c - d) * (c - d) = 2 * ((a + b) * (c + d)) := by grind
  have s1 : 0 ≤ (a - b) * (a - b) := mul_self_nn _
  have s2 : 0 ≤ (c - d) * (c - d) := mul_self_nn _
  rcases Int.lt_or_le (a + b) 1 with h | h
  · exfalso
    rcases Int.lt_or_le (a + b) 0 with h0 | h0
    · have := Int.mul_neg_of_neg_of_pos h0 (show 0 < c + d by omega)
      omega
    · have h00 : a + b = 0 := by omega
      rw [h00, Int.zero_mul] at key
      have e1 : a - b = 0 := by
        rcases Int.lt_trichotomy (a - b) 0 with h1 | h1 | h1
        · have := Int.mul_pos_of_neg_of_neg h1 h1; omega
        · exact h1
        · have := Int.mul_pos h1 h1; omega
      have e2 : c - d = 0 := by
        rcases Int.lt_trichotomy (c - d) 0 with h1 | h1 | h1
        · have := Int.mul_pos_of_neg_of_neg h1 h1; omega
        · exact h1
        · have := Int.mul_pos h1 h1; omega
      omega
  · exact h
theorem dep0_of {L : List Ci4} {most : Int} (h : upOk L most = true) : Dep0 L := by
  unfold upOk at h
  rw [Bool.and_eq_true, Bool.and_eq_true] at h
  obtain ⟨hc, _, hi⟩ := h
  have hl := fourB_len (confB_four hc)
  have hall := fourB_all (confB_four hc)
  unfold insideB at hi
  rw [Bool.and_eq_true, Bool.and_eq_true] at hi
  obtain ⟨hq, hlast, hmn⟩ := hi
  have hg4 := gIx_lt hq
  have hmax := gTo_max (curvL L) 4
  have hgx : gIx (curvL L) = gTo (curvL L) 4 := by unfold gIx; rw [show (curvL L).length = 4 by simp [curvL, hl]]
  have hmn' := of_decide_eq_true hmn
  have hlast' : (curvL L).getD (gIx (curvL L)) 0 ≤ swN (curvL L) (gIx (curvL L)) := of_decide_eq_true hlast
  rw [hgx] at hlast' hg4
  obtain ⟨A, B, C, D, rfl⟩ := four_of L hl
  obtain ⟨a0, a1, a2, a3⟩ := A
  obtain ⟨b0, b1, b2, b3⟩ := B
  obtain ⟨c0, c1, c2, c3⟩ := C
  obtain ⟨d0, d1, d2, d3⟩ := D
  have hQ := (apB_iff a1 b1 c1 d1).1 hq
  simp only [curvL, List.map_cons, List.map_nil] at *
  have hneg : a1 < 0 ∨ b1 < 0 ∨ c1 < 0 ∨ d1 < 0 := by
    rcases Int.lt_or_le a1 0 with h | h
    · exact .inl h
    rcases Int.lt_or_le b1 0 with h' | h'
    · exact .inr (.inl h')
    rcases Int.lt_or_le c1 0 with h'' | h''
    · exact .inr (.inr (.inl h''))
    rcases Int.lt_or_le d1 0 with h3 | h3
    · exact .inr (.inr (.inr h3))
    exfalso
    have := mn_ge [a1, b1, c1, d1] 0 4 (fun j hj => by
      have : j < 4 := by omega
      rcases lt4 this with rfl | rfl | rfl | rfl <;> simpa)
    omega
  have m0 := hmax 0 (by omega)
  have m1 := hmax 1 (by omega)
  have m2 := hmax 2 (by omega)
  have m3 := hmax 3 (by omega)
  obtain ⟨z, hz⟩ : ∃ z, ([a1, b1, c1, d1] : List Int).getD (gTo [a1, b1, c1, d1] 4) 0 = z := ⟨_, rfl⟩
  unfold swN at hlast'
  rw [hz] at m0 m1 m2 m3 hlast'
  simp only [List.getD_cons_zero, List.getD_cons_succ, List.sum_cons, List.sum_nil] at m0 m1 m2 m3 hlast'
  have he := hQ.he
  have hs := hQ.hs
  have t01 := two_of_quad hs he hneg
  have t02 : 1 ≤ a1 + c1 := two_of_quad (a := a1) (b := c1) (c := b1) (d := d1) (by omega) (by grind) (by omega)
  have t03 : 1 ≤ a1 + d1 := two_of_quad (a := a1) (b := d1) (c := b1) (d := c1) (by omega) (by grind) (by omega)
  have t12 : 1 ≤ b1 + c1 := two_of_quad (a := b1) (b := c1) (c := a1) (d := d1) (by omega) (by grind) (by omega)
  have t13 : 1 ≤ b1 + d1 := two_of_quad (a := b1) (b := d1) (c := a1) (d := c1) (by omega) (by grind) (by omega)
  have t23 : 1 ≤ c1 + d1 := two_of_quad (a := c1) (b := d1) (c := a1) (d := b1) (by omega) (by grind) (by omega)
  refine ⟨rfl, ?_, ?_, ?_⟩
  · intro i hi
    have hb := ciIn_bd (ciB_in (hall i (by simpa using hi)))
    unfold Bd
    rcases lt4 hi with rfl | rfl | rfl | rfl <;> exact hb
  · intro i j hi hj hij
    rcases lt4 hi with rfl | rfl | rfl | rfl <;> rcases lt4 hj with rfl | rfl | rfl | rfl <;> simp only [List.getD_cons_zero, List.getD_cons_succ] <;> omega
  · intro i hi
    rcases lt4 hi with rfl | rfl | rfl | rfl <;> simp only [ciNew, List.getD_cons_zero, List.getD_cons_succ] <;> omega


/-- a list's block and capacity, and the node -/
abbrev FNode := Nat × Nat × CNode
def fVs (x : FNode) : List Value := [.slice (some ⟨x.1, 0, none⟩) 4 x.2.1, .int .i64 x.2.2.2]
def fCells (Q : List FNode) : List Value := Q.flatMap fVs
theorem fCells_snoc (Q : List FNode) (x : FNode) : fCells (Q ++ [x]) = fCells Q ++ [.slice (some ⟨x.1, 0, none⟩) 4 x.2.1, .int .i64 x.2.2.2] := by simp [fCells, fVs]
theorem fCells_len (Q : List FNode) : (fCells Q).length = Q.length * 2 := by
  induction Q with
  | nil => rfl
  | cons x Q ih =>
    simp only [fCells, List.flatMap_cons, List.length_append, List.length_cons] at *
    rw [ih]
    simp only [fVs, List.length_cons, List.length_nil]
    omega
theorem fCells_at (Q : List FNode) (k : Nat) (hk : k < Q.length) : (fCells Q)[k * 2]? = some (.slice (some ⟨Q[k].1, 0, none⟩) 4 Q[k].2.1) ∧ (fCells Q)[k * 2 + 1]? = some (.int .i64 Q[k].2.2.2) := by
  induction Q generalizing k with
  | nil => simp at hk
  | cons x Q ih =>
    simp only [fCells, List.flatMap_cons]
    cases k with
    | zero => simp [fVs]
    | succ k =>
      have := ih k (by simpa using hk)
      rw [List.getElem?_append_right (by simp [fVs]; omega), List.getElem?_append_right (by simp [fVs]; omega)]
      simp only [fVs, List.length_cons, List.length_nil, show (k + 1) * 2 - (0 + 1 + 1) = k * 2 by omega, show (k + 1) * 2 + 1 - (0 + 1 + 1) = k * 2 + 1 by omega]
      exact this
def OwnF (lo hi : Nat) (w : World) (v : Value) (Q : List FNode) : Prop :=
  w.ownsRow lo 73 2 v Q.length (fCells Q) ∧ ∀ k, v.ownBlock = some k → k < hi
theorem OwnF.later {lo hi : Nat} {w w' : World} {v : Value} {Q : List FNode} (h : OwnF lo hi w v Q) (k : Later w w') : OwnF lo hi w' v Q :=
  ⟨ownsRow_keep4 h.1 fun b hb => k.block b (h.1.lt b hb).2, h.2⟩
theorem OwnF.wide {w : World} {lo hi hi' : Nat} {v : Value} {Q : List FNode} (h : OwnF lo hi w v Q) (hh : hi ≤ hi') : OwnF lo hi' w v Q := ⟨h.1, fun k hk => Nat.lt_of_lt_of_le (h.2 k hk) hh⟩
theorem OwnF.form {lo hi : Nat} {w : World} {v : Value} {Q : List FNode} (h : OwnF lo hi w v Q) (h0 : 0 < Q.length) : ∃ g cap, v = .slice (some ⟨g, 0, none⟩) Q.length cap := by
  rcases h.1.2 with ⟨rfl, e⟩ | ⟨g, cap, cur, rfl, _⟩
  · omega
  · exact ⟨g, cap, rfl⟩
theorem OwnF.shape {lo hi : Nat} {w : World} {v : Value} {Q : List FNode} (h : OwnF lo hi w v Q) : ∃ a cap, v = .slice a Q.length cap := by
  rcases h.1.2 with ⟨rfl, e⟩ | ⟨g, cap, cur, rfl, _⟩
  · exact ⟨none, 0, by rw [e]⟩
  · exact ⟨_, cap, rfl⟩
theorem OwnF.cells {lo hi g n cap : Nat} {w : World} {Q : List FNode} (h : OwnF lo hi w (.slice (some ⟨g, 0, none⟩) n cap) Q) (hn : n = Q.length) (k : Nat) (hk : k < Q.length) :
    w.cell? ⟨g, k * 2, none⟩ = some (.slice (some ⟨Q[k].1, 0, none⟩) 4 Q[k].2.1) ∧ w.cell? ⟨g, k * 2 + 1, none⟩ = some (.int .i64 Q[k].2.2.2) := by
  subst hn
  have hat := fCells_at Q k hk
  exact ⟨(h.1.cellAt (k * 2) (by omega)).trans hat.1, (h.1.cellAt (k * 2 + 1) (by omega)).trans hat.2⟩
theorem Try.infoF : (Try.prog.info? 73).map (fun i => (i.zero, i.size, i.bytes)) = some (some (.agg #[.slice none 0 0, .int .i64 0]), 2, 32) := by kernel_rfl
/-- what is kept of a node -/
structure GN (w : World) (o q : Value) (x : FNode) : Prop where
  cis : Cis w (.slice (some ⟨x.1, 0, none⟩) 4 x.2.1) x.2.2.1
  len : x.2.2.1.length = 4
  bd : BdL 1000000 x.2.2.1
  no : o.ownBlock ≠ some x.1
  nq : q.ownBlock ≠ some x.1
theorem Cis.lt4 {w : World} {g cap : Nat} {L : List Ci4} (h : Cis w (.slice (some ⟨g, 0, none⟩) 4 cap) L) (hl : L.length = 4) : g < w.heap.size := by
  obtain ⟨g', e, c0, _⟩ := h.at 0 (by omega)
  simp only [Option.some.injEq, Addr.mk.injEq, and_true] at e
  subst e
  exact World.block_lt_of_cell? w _ c0
theorem Cis.keep {w w' : World} {g cap : Nat} {L : List Ci4} (h : Cis w (.slice (some ⟨g, 0, none⟩) 4 cap) L) (hk : w'.heap[g]? = w.heap[g]?) : Cis w' (.slice (some ⟨g, 0, none⟩) 4 cap) L := by
  obtain ⟨a, c, e, hl, hcap, hc⟩ := h
  refine ⟨a, c, e, hl, hcap, fun i hi => ?_⟩
  obtain ⟨g', e', c0, c1, c2, c3⟩ := hc i hi
  simp only [Value.slice.injEq] at e
  have e2 := e.1.trans e'
  simp only [Option.some.injEq, Addr.mk.injEq, and_true] at e2
  subst e2
  exact ⟨_, e', cell_keep c0 hk, cell_keep c1 hk, cell_keep c2 hk, cell_keep c3 hk⟩
theorem GN.later {w w' : World} {o q : Value} {x : FNode} (h : GN w o q x) (k : Later w w') : GN w' o q x := ⟨h.cis.later k, h.len, h.bd, h.no, h.nq⟩
theorem GN.grownO {w w' : World} {o q : Value} {x : FNode} {g n cap H : Nat} (h : GN w o q x) (hg : w.grownBy w' o.ownBlock) (hat : o.ownBlock = some g ∨ g = H) (hH : w.heap.size ≤ H) : GN w' (.slice (some ⟨g, 0, none⟩) n cap) q x := by
  have hlt := h.cis.lt4 h.len
  refine ⟨h.cis.keep (hg.block x.1 hlt (fun e => h.no e.symm)), h.len, h.bd, fun e => ?_, h.nq⟩
  simp only [Value.ownBlock, Option.some.injEq] at e
  rcases hat with h1 | h1
  · exact h.no (by rw [h1, e])
  · omega
theorem GN.grownQ {w w' : World} {o q : Value} {x : FNode} {g n cap H : Nat} (h : GN w o q x) (hg : w.grownBy w' q.ownBlock) (hat : q.ownBlock = some g ∨ g = H) (hH : w.heap.size ≤ H) : GN w' o (.slice (some ⟨g, 0, none⟩) n cap) x := by
  have hlt := h.cis.lt4 h.len
  refine ⟨h.cis.keep (hg.block x.1 hlt (fun e => h.nq e.symm)), h.len, h.bd, h.no, fun e => ?_⟩
  simp only [Value.ownBlock, Option.some.injEq] at e
  rcases hat with h1 | h1
  · exact h.nq (by rw [h1, e])
  · omega
/-! ### the answer's beginning -/
theorem news_head (most : Int) (nd : CNode) : ∀ d k : Nat, k + d = 4 → ∃ tl, newsTo most nd 4 = newsTo most nd k ++ tl
  | 0, k, h => ⟨[], by rw [List.append_nil, show k = 4 by omega]⟩
  | d + 1, k, h => by
    obtain ⟨tl, ht⟩ := news_head most nd d (k + 1) (by omega)
    exact ⟨newAt most nd k ++ tl, by rw [ht]; simp only [newsTo, List.append_assoc]⟩
theorem up_stop {L : List Ci4} {most : Int} {T tl : List Ci4} {t : Ci4} (hR : T ++ [t] ++ tl = upR L most) (h : ciB t = false ∨ T.length = 300) : upAns L most = none := by
  unfold upAns
  rw [if_neg]
  rintro ⟨_, h2, h3⟩
  rw [← hR] at h2 h3
  rcases h with h | h
  · simp [h] at h3
  · simp at h2; omega
theorem up_all {L : List Ci4} {most : Int} {T : List Ci4} (hok : upOk L most = true) (hR : T = upR L most) (h1 : T.length ≤ 300) (h2 : T.all ciB = true) : upAns L most = some T := by
  unfold upAns
  rw [← hR, if_pos ⟨hok, h1, h2⟩]
theorem bd_swap {L : List Ci4} {i : Nat} (hl : L.length = 4) (hi : i < 4) (hb : BdL 1000000 L) (ht : ciB (ciNew L i) = true) : BdL 1000000 (ciSwL L i) := by
  intro j hj
  by_cases e : j = i
  · subst e
    rw [swL_same L j hl hj]
    generalize ciNew L j = t at ht ⊢
    obtain ⟨a, b, c, d⟩ := t
    exact ciIn_bd (ciB_in ht)
  · rw [swL_other L i j e]
    exact hb j hj
theorem told_ciB {L : List Ci4} (h : confB L = true) (most : Int) (k : Nat) : (toldTo most L k).all ciB = true := by
  have hall := fourB_all (confB_four h)
  rw [List.all_eq_true]
  intro t ht
  unfold toldTo at ht
  have hm := List.mem_of_mem_take (List.mem_filter.1 ht).1
  obtain ⟨i, hi, rfl⟩ := List.mem_iff_getElem.1 hm
  have := hall i hi
  rwa [show L.getD i c00 = L[i] by simp [hi]] at this
theorem conf_bd {L : List Ci4} (h : confB L = true) : BdL 1000000 L := by
  intro i hi
  have hl := fourB_len (confB_four h)
  have := fourB_all (confB_four h) i (by omega)
  generalize L.getD i c00 = t at this ⊢
  obtain ⟨a, b, c, d⟩ := t
  exact ciIn_bd (ciB_in this)
/-! ### the least number -/
theorem mn_le (zs : List Int) : ∀ k j, (j < k ∨ j = 0) → mnTo zs k ≤ zs.getD j 0
  | 0, j, h => by have : j = 0 := by omega
                  subst this; exact Int.le_refl _
  | k + 1, j, h => by
    unfold mnTo
    split
    · rename_i hlt
      by_cases e : j = k
      · subst e; exact Int.le_refl _
      · have := mn_le zs k j (by omega); omega
    · rename_i hlt
      by_cases e : j = k
      · subst e; omega
      · exact mn_le zs k j (by omega)
theorem mn_sorted {a b c d : Int} : decide (mnTo [a, b, c, d] 4 < 0) = decide ((sortU [a, b, c, d]).getD 0 0 < 0) := by
  have hp := sortU_perm [a, b, c, d]
  have hl := sortU_len [a, b, c, d]
  have hu := sortU_up [a, b, c, d]
  obtain ⟨s0, s1, s2, s3, hs⟩ := len4 (zs := sortU [a, b, c, d]) (by rw [hl]; rfl)
  rw [hs] at hp hu ⊢
  have hmin : ∀ x ∈ [a, b, c, d], s0 ≤ x := by
    intro x hx
    have := hp.mem_iff.2 hx
    rcases List.mem_cons.1 this with rfl | h
    · exact Int.le_refl _
    · exact (List.pairwise_cons.1 hu).1 x h
  have h0 : s0 ∈ [a, b, c, d] := hp.mem_iff.1 (by simp)
  have h1 : s0 ≤ mnTo [a, b, c, d] 4 := mn_ge _ _ 4 (fun j hj => by
    have : j < 4 := by omega
    rcases lt4 this with rfl | rfl | rfl | rfl <;> exact hmin _ (by simp))
  have h2 : mnTo [a, b, c, d] 4 ≤ s0 := by
    have g0 := mn_le [a, b, c, d] 4 0 (by omega)
    have g1 := mn_le [a, b, c, d] 4 1 (by omega)
    have g2 := mn_le [a, b, c, d] 4 2 (by omega)
    have g3 := mn_le [a, b, c, d] 4 3 (by omega)
    simp only [List.getD_cons_zero, List.getD_cons_succ] at g0 g1 g2 g3
    simp only [List.mem_cons, List.mem_nil_iff, or_false] at h0
    rcases h0 with rfl | rfl | rfl | rfl <;> assumption
  rw [show mnTo [a, b, c, d] 4 = s0 by omega]
  rfl
end Go.Proofs.Ytljikcajfmnnmab
