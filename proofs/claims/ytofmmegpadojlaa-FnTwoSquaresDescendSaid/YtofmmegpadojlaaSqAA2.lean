/- Lists of 2 squares with a sum in the program: all of them. -/
import Derived.Test.YtofmmegpadojlaaSqW2
import Derived.Maps.AppendAt
import Derived.Deep.AppendLies
import Derived.Shelf.RegionOpen
namespace Go.Proofs.Ytofmmegpadojlaa
open Go.RowKit Go.Shelf

theorem infoSq2 : (Try.prog.info? 71).map (fun i => (i.zero, i.size, i.bytes)) = some (some (.agg #[.int .i64 0, .int .i64 0]), 2, 16) := by kernel_rfl
def vCells2 (L : List (List Int)) : List Value := L.flatMap fun zs => zs.map (Value.int .i64)
theorem vCells2_snoc (L : List (List Int)) (zs : List Int) : vCells2 (L ++ [zs]) = vCells2 L ++ zs.map (Value.int .i64) := by simp [vCells2]
theorem vCells2_at (L : List (List Int)) (hL : ∀ zs ∈ L, zs.length = 2) (i : Nat) (hi : i < L.length) (j : Nat) (hj : j < 2) : (vCells2 L)[i * 2 + j]? = some (.int .i64 (L[i].getD j 0)) := by
  induction L generalizing i with
  | nil => simp at hi
  | cons zs L ih =>
    have hz := hL zs (by simp)
    have e : vCells2 (zs :: L) = zs.map (Value.int .i64) ++ vCells2 L := by simp [vCells2]
    rw [e]
    cases i with
    | zero =>
      rw [List.getElem?_append_left (by simp [hz]; omega)]
      simp [hz, hj]
    | succ i =>
      rw [List.getElem?_append_right (by simp [hz]; omega)]
      have := ih (fun zs hzs => hL zs (by simp [hzs])) i (by simpa using hi)
      rw [List.length_map, hz, show (i + 1) * 2 + j - 2 = i * 2 + j by omega]
      simpa using this
def OwnV2 (lo : Nat) (w : World) (v : Value) (L : List (List Int)) : Prop := w.ownsRow lo 71 2 v L.length (vCells2 L)
theorem OwnV2.keep {lo : Nat} {w w' : World} {v : Value} {L : List (List Int)} (h : OwnV2 lo w v L) (k : ∀ b, v.ownBlock = some b → w'.heap[b]? = w.heap[b]?) : OwnV2 lo w' v L := by
  refine ⟨h.1, ?_⟩
  rcases h.2 with hn | ⟨g, cap, cur, rfl, hb, hgg, rest⟩
  · exact .inl hn
  · exact .inr ⟨g, cap, cur, rfl, hb, (k g rfl).trans hgg, rest⟩
theorem OwnV2.block {lo : Nat} {w : World} {v : Value} {L : List (List Int)} (h : OwnV2 lo w v L) {b : Nat} (hb : v.ownBlock = some b) : lo ≤ b ∧ b < w.heap.size ∧ ∃ cur, w.heap[b]? = some (.cells cur 71 (0, 0)) := by
  rcases h.2 with ⟨rfl, _⟩ | ⟨g, cap, cur, rfl, h1, hg, _⟩
  · simp [Value.ownBlock] at hb
  · simp [Value.ownBlock] at hb; subst hb; exact ⟨h1, (Array.getElem?_eq_some_iff.1 hg).1, cur, hg⟩
/-- One step in a fence: a list of squares put behind those that the call owns. -/
theorem wpIn_pushV2 {F : Fence} {n : Nat} (w : World) {ops : Array Oper} {rest : List Oper} {o : Oper} {a : Act} {Q : Exit → Act → World → Prop} (hg : o.guard = none) (s x : Operand)
    (hop : o.op = Op.call { callee := Callee.builtin Builtin.append, args := #[s, x], argTypes := #[79, 79] }) (lo : Nat) (v : Value) (pre : List (List Int)) (a0 a1 : Int) (g0 : Nat) (hs : a.eval s = v) (hO : OwnV2 lo w v pre)
    (hx : a.eval x = .slice (some ⟨g0, 0, none⟩) 1 1) (hnew : ∀ j u, ([.int .i64 a0, .int .i64 a1] : List Value)[j]? = some u → w.cell? ((⟨g0, 0, none⟩ : Addr).add j) = some u) (hl : pre.length ≤ 1000000) (hlo : lo ≤ w.heap.size)
    (h : ∀ g cap w', OwnV2 lo w' (.slice (some ⟨g, 0, none⟩) (pre.length + 1) cap) (pre ++ [[a0, a1]]) → w.grownBy w' v.ownBlock → (v.ownBlock = some g ∨ g = w.heap.size) → g < w'.heap.size → wpListIn F n Try.prog ops Q rest (a.put o.dst (.slice (some ⟨g, 0, none⟩) (pre.length + 1) cap)) w') :
    wpListIn F n Try.prog ops Q (o :: rest) a w := by
  obtain ⟨i0, hi, hz0, hz1, hz2⟩ := info_parts infoSq2
  refine wpListIn_plain hg fun K hK => ?_
  obtain ⟨g, cap, w', hr, h2, h3, h4, h5⟩ := run_append_lies (P := Try.prog) w 79 o.type lo 71 i0 (.agg #[.int .i64 0, .int .i64 0]) 2 16 Try.underlying79 hi hz0 hz1 hz2 rfl (by decide) v pre.length (vCells2 pre) hO ⟨g0, 0, none⟩ 1 1 [.int .i64 a0, .int .i64 a1] rfl hnew (by simp [Value.oneCell']) (by omega) (by unfold maxLen; omega) (by omega) hlo _ rfl
  unfold Oper.wpIn
  refine ⟨by simp [Oper.about, hop, resolve, Target.leads, Sem.run_pure], ?_⟩
  rw [Oper.semAt_plain F _ _ (by rw [hop]; intro c hc; cases hc)]
  simp [execOp, hop, resolve, invoke, builtin, hs, hx, hr, Result.andThen]
  refine hK _ _ (h g cap w' ?_ h3 h4 h5)
  unfold OwnV2
  rw [vCells2_snoc, List.length_append]
  exact h2
attribute [local go_sem] Oper.semAt_some in
set_option maxRecDepth 100000 in
set_option maxHeartbeats 4000000 in
theorem appendSeq2 (n B : Nat) (w : World) (hn : n ≤ 1000000) (hB : B < w.heap.size) (hc : w.cell? ⟨B, 0, none⟩ = some (.int .i64 n)) :
    Calls Try.prog 136 #[.slice none 0 0, .func (.func 134) #[] #[.pointer (some ⟨B, 0, none⟩)]] w fun e w' => ∃ v, e = .returned v ∧ OwnV2 w.heap.size w' v (Sq.sqL 2 n n) ∧ Later w w' := by
  refine (callsIn_wide (n := 6)).1 ?_
  refine callsIn_of_wp_marks Try.func136 rfl trivial ?_ rfl
  simp only [Try.ntmps136, List.size_toArray, List.length_cons, List.length_nil, Nat.reduceAdd, Nat.reduceSub, Array.replicate_succ, Array.replicate_zero, List.push_toArray, List.append_toArray, List.nil_append, List.cons_append]
  gi_wp2
  obtain ⟨W0, hW0⟩ : ∃ W0, w.alloc (.cells #[.slice none 0 0] 79) = W0 := ⟨_, rfl⟩
  have HB2 := hid (show W0.heap[w.heap.size]? = some (.cells #[.slice none 0 0] 79 (0, 0)) by rw [← hW0]; exact World.alloc_heap_new w _)
  have HLW := hid (show Later w W0 by rw [← hW0]; exact Later.alloc w _)
  have HS := hid (show W0.heap.size = w.heap.size + 1 by rw [← hW0]; simp)
  rw [hW0]
  clear hW0
  obtain ⟨L, hL⟩ : ∃ L, Sq.sqL 2 n n = L := ⟨_, rfl⟩
  have HSQ := hid (seq2 n B W0 (by omega) (Nat.lt_of_lt_of_le hB HLW.out.size) (HLW.out.cell hc))
  have HM2 := hid (fun (zs : List Int) (hz : zs ∈ Sq.sqL 2 n n) => (Sq.sqL_mem 2 n n zs hz).1)
  have HLen := hid (sq2_len hn n)
  rw [hL] at HSQ HM2 HLen
  have HLL := hid hL
  clear hL
  refine rangeL (p0 := 7) (L := L) rfl rfl enter2 HSQ.out
    (fun P pre W => pre <+: L ∧ ∃ v, W.heap[w.heap.size]? = some (.cells #[v] 79 (0, 0)) ∧ OwnV2 w.heap.size W v pre ∧ ¬ P w.heap.size ∧ (∀ b, v.ownBlock = some b → ¬ P b) ∧ Later w W ∧ w.heap.size + 1 ≤ W.heap.size ∧ ∀ b, P b → w.heap.size ≤ b ∧ b < W.heap.size)
    (fun _ _ _ => False)
    ?carr ?iput ?xput ?ialloc ?start 6 ?round ?done ?stop
  case carr => exact
    { new := fun P s W cs t ⟨h1, v, h2, h3, h4, h5, h6, h7, h8⟩ => ⟨h1, v, (Below.heap_alloc _ _ _ (by omega)).trans h2, h3.keep (fun b hb => Below.heap_alloc _ _ _ (h3.block hb).2.1), fun h => h.elim h4 (fun e => by omega), fun b hb h => h.elim (h5 b hb) (fun e => by have := (h3.block hb).2.1; omega), h6.trans (Later.alloc _ _), by rw [World.size_alloc]; omega, fun b h => h.elim (fun h => by have := h8 b h; rw [World.size_alloc]; omega) (fun e => by rw [World.size_alloc]; omega)⟩
      set := fun P s W b k u ⟨h1, v, h2, h3, h4, h5, h6, h7, h8⟩ hb => ⟨h1, v, (heap_setCell_other W ⟨b, k, none⟩ _ u (fun e => h4 (by rw [e]; exact hb))).trans h2, h3.keep (fun c hc => heap_setCell_other W ⟨b, k, none⟩ _ u (fun e => h5 c hc (by rw [e]; exact hb))), h4, h5, Below.setCell h6 (h8 b hb).1 u, by simpa using h7, by simpa using h8⟩
      weak := fun P P' s W ⟨h1, v, h2, h3, h4, h5, h6, h7, h8⟩ hp => ⟨h1, v, h2, h3, fun h => h4 (hp _ h), fun b hb h => h5 b hb (hp _ h), h6, h7, fun b hb => h8 b (hp b hb)⟩ }
  case iput =>
    rintro P s W k o ⟨h1, v, h2, h3, h4, h5, h6, h7, h8⟩ hk hn
    rw [HS.out] at hk
    exact ⟨h1, v, (World.putObj_heap_other (by omega)).trans h2, h3.keep (fun b hb => World.putObj_heap_other (fun e => by obtain ⟨_, _, cur, hc⟩ := h3.block hb; rw [e] at hc; have := hn _ hc; cases this)), h4, h5, below_put h6 (by omega) (by omega) o, by simpa using h7, by simpa using h8⟩
  case xput =>
    rintro c s W k o h _ _
    exact h.elim
  case ialloc =>
    rintro s W o ⟨h1, v, h2, h3, h4, h5, h6, h7, h8⟩ _
    exact ⟨h1, v, (Below.heap_alloc _ _ _ (by omega)).trans h2, h3.keep (fun b hb => Below.heap_alloc _ _ _ (h3.block hb).2.1), h4, h5, h6.trans (Later.alloc _ _), by rw [World.size_alloc]; omega, fun b h => h.elim⟩
  case start => exact ⟨List.nil_prefix, _, HB2.out, World.ownsRow_nil _ _ _ _, id, fun _ _ h => h, HLW.out, by rw [HS.out]; omega, fun b h => h.elim⟩
  case round =>
    rintro m l D P pre x W hD hl hlt hlc hDc hPl hPD ⟨h1, v, h2, h3, h4, h5, h6, h7, h8⟩ hx
    have HPX := hid hx
    have hxl := HM2.out x (prefix_mem hx)
    have hpl : pre.length ≤ 1000000 := Nat.le_trans h1.length_le HLen.out
    obtain ⟨a0, a1, rfl⟩ : ∃ a0 a1, x = [a0, a1] := by
      match x, hxl with
      | [a0, a1], _ => exact ⟨a0, a1, rfl⟩
    clear hx hxl
    simp only [encV, List.map_cons, List.map_nil]
    gi_wp2
    refine ⟨Below.heap_alloc _ _ _ hlt, ?_⟩
    rintro o W2 hW2 ho
    have hBl : W.heap.size ≠ l := by omega
    have hl2 : W2.heap.size = W.heap.size + 1 := by rw [hW2]; simp
    have HX := hid (show SBox W2 W.heap.size [a0, a1] from by rw [hW2]; exact (SBox.new W [a0, a1] #[.int .i64 a0, .int .i64 a1] 71 rfl).keep (World.putObj_heap_other hBl))
    have hlv : ∀ b, v.ownBlock = some b → b ≠ l ∧ b ≠ D := fun b hb => by
      obtain ⟨_, _, cur, hc⟩ := h3.block hb
      exact ⟨(fun e => by rw [e] at hc; have := hlc _ hc; cases this), (fun e => by rw [e] at hc; have := hDc _ hc; cases this)⟩
    have hold : ∀ b, b < W.heap.size → b ≠ l → W2.heap[b]? = W.heap[b]? := fun b hb hbl => by rw [hW2]; exact (World.putObj_heap_other hbl).trans (Below.heap_alloc _ _ _ hb)
    have H2 := hid (show W2.heap[w.heap.size]? = some (.cells #[v] 79 (0, 0)) from (hold _ (by omega) (by rw [hl, HS.out]; omega)).trans h2)
    have H3 := hid (show OwnV2 w.heap.size W2 v pre from h3.keep fun b hb => hold b (h3.block hb).2.1 (hlv b hb).1)
    have H6 := hid (show Later w W2 by rw [hW2]; exact below_put (h6.trans (Later.alloc _ _)) (by rw [hl, HS.out]; omega) (by rw [World.size_alloc]; omega) o)
    have HD := hid (show W2.heap[D]? = W.heap[D]? from hold D (by omega) (by omega))
    have HKP := hid (show ∀ b, P b → W2.heap[b]? = W.heap[b]? from fun b hb => hold b (h8 b hb).2 (fun e => hPl (by rw [← e]; exact hb)))
    have hlD : l = w.heap.size + 2 ∧ D = w.heap.size + 1 := by rw [hl, hD, HS.out]; exact ⟨rfl, rfl⟩
    have HLD := hid hlD
    have HLV := hid hlv
    have hSz : W.heap.size < W2.heap.size := by omega
    have h0s : w.heap.size + 1 ≤ W.heap.size := h7
    have HBv := hid (show ∀ b, v.ownBlock = some b → b ≠ w.heap.size from fun b hb e => by
      obtain ⟨_, _, cur, hc⟩ := H3.out.block hb
      rw [e, H2.out] at hc
      simp at hc)
    clear hW2 h2 h3 h6 hl hD hlD hl2 hlc hDc hold hlv
    have c0 := (HX.out 0 a0 rfl).1
    have c1 := (HX.out 1 a1 rfl).1
    obtain ⟨e2c, e2f⟩ := show W2.cell? ⟨w.heap.size, 0, none⟩ = some v ∧ W2.frozen? ⟨w.heap.size, 0, none⟩ = false by
      constructor <;> simp [World.cell?, World.frozen?, H2.out]
    have hnew := World.news_of_block (cs := #[.int .i64 a0, .int .i64 a1]) (t := 71) (fr := (0, 0)) (World.alloc_heap_new W2 (.cells #[.int .i64 a0, .int .i64 a1] 71))
    have hown : OwnV2 w.heap.size (W2.alloc (.cells #[.int .i64 a0, .int .i64 a1] 71)) v pre := H3.out.keep fun b hb => Below.heap_alloc _ _ _ (H3.out.block hb).2.1
    have hH6s := H6.out.size
    gi_wp2_with (first
      | (gi_at_builtin; refine wpIn_pushV2 _ rfl _ _ rfl w.heap.size v pre a0 a1 W2.heap.size rfl hown rfl hnew hpl (by rw [World.size_alloc]; omega) ?_; intro g' cap' w3 hown' hg3 hat hglt
         have hb3 : w3.heap[w.heap.size]? = some (.cells #[v] 79 (0, 0)) := (hg3.block w.heap.size (by rw [World.size_alloc]; omega) (fun e => HBv.out _ e.symm rfl)).trans ((Below.heap_alloc _ _ _ (by omega)).trans H2.out)
         obtain ⟨e3c, e3f⟩ := show w3.cell? ⟨w.heap.size, 0, none⟩ = some v ∧ w3.frozen? ⟨w.heap.size, 0, none⟩ = false by
           constructor <;> simp [World.cell?, World.frozen?, hb3])
      | gi_in)
    obtain ⟨hl4, hd3⟩ := HLD.out
    have hsz3 : W2.heap.size + 1 ≤ w3.heap.size := by have := hg3.size; rwa [World.size_alloc] at this
    have far : ∀ b, b < W2.heap.size → v.ownBlock ≠ some b → w3.heap[b]? = W2.heap[b]? := fun b hb hv => (hg3.block b (by rw [World.size_alloc]; omega) (fun e => hv e.symm)).trans (Below.heap_alloc _ _ _ hb)
    have hgB : g' ≠ w.heap.size := fun e => by
      obtain ⟨_, _, cur, hc⟩ := hown'.block (b := g') (by simp [Value.ownBlock])
      rw [e, hb3] at hc
      simp at hc
    refine ⟨(heap_setCell_other _ ⟨w.heap.size, 0, none⟩ l _ (by simp only; omega)).trans (far l (by omega) (fun e => (HLV.out l e).1 rfl)), ((heap_setCell_other _ ⟨w.heap.size, 0, none⟩ D _ (by simp only; omega)).trans (far D (by omega) (fun e => (HLV.out D e).2 rfl))).trans HD.out,
      ⟨HPX.out, _, box_set _ hb3, hown'.keep (fun b hb => heap_setCell_other _ ⟨w.heap.size, 0, none⟩ b _ (fun e => hgB (by simp [Value.ownBlock] at hb; simp only at e; omega))), h4, ?_, ?_, by simp only [World.size_setCell]; omega, fun b hb => by have := h8 b hb; simp only [World.size_setCell]; omega⟩, fun b hb => ?_⟩
    · intro b hb hPb
      have hgb : g' = b := by simpa [Value.ownBlock] using hb
      subst hgb
      rcases hat with e | e
      · exact h5 _ e hPb
      · have := h8 _ hPb
        rw [World.size_alloc] at e
        omega
    · exact Below.setCell (p := ⟨w.heap.size, 0, none⟩) ((H6.out.trans (Later.alloc _ _)).grown hg3 (by rw [World.size_alloc]; omega) (fun b hb => (H3.out.block hb).1)) (Nat.le_refl _) _
    · have h9 := h8 b hb
      exact ((heap_setCell_other _ ⟨w.heap.size, 0, none⟩ b _ (fun e => h4 (by simp only at e; rw [← e]; exact hb))).trans (far b (by omega) (fun e => h5 b e hb))).trans (HKP.out b hb)
  case done =>
    rintro W ⟨_, v, h2, h3, _, _, h6, h7, _⟩ hK hlt
    have c2 : W.cell? ⟨w.heap.size, 0, none⟩ = some v := by simp [World.cell?, h2]
    gi_wp2
    have HLf := hid (below_put h6 (k := W0.heap.size) (by have := HS.out; omega) h6.size (.deferred none))
    refine ⟨by simp, .inl ⟨_, _, rfl, run_takeDeferred hK, ?_⟩⟩
    refine ⟨_, results_tmp rfl _ _ _, v, rfl, ?_, HLf.out⟩
    rw [HLL.out]
    refine h3.keep fun b hb => World.putObj_heap_other fun e => ?_
    obtain ⟨_, _, cur, hc⟩ := h3.block hb
    rw [e, hK] at hc
    cases hc
  case stop =>
    rintro c q W hq h _ _
    exact h.elim
theorem collect2 (n B : Nat) (w : World) (hn : n ≤ 1000000) (hB : B < w.heap.size) (hc : w.cell? ⟨B, 0, none⟩ = some (.int .i64 n)) :
    Calls Try.prog 116 #[.func (.func 134) #[] #[.pointer (some ⟨B, 0, none⟩)]] w fun e w' => ∃ v, e = .returned v ∧ OwnV2 w.heap.size w' v (Sq.sqL 2 n n) ∧ Later w w' := by
  have HC := hid (appendSeq2 n B w hn hB hc)
  go_enter Try.func116, Try.ntmps116
  go_wp2_with (go_at_call 136; refine HC.out.mono ?_; rintro e w2 ⟨v, rfl, hO, hL⟩)
  go_ret
  exact ⟨v, rfl, hO, hL⟩
def Vs2 (w : World) (v : Value) (L : List (List Int)) : Prop := ∃ a cap, v = .slice a L.length cap ∧ L.length ≤ 9223372036854775807 ∧
  ∀ i, (h : i < L.length) → ∃ g, a = some ⟨g, 0, none⟩ ∧ ∀ j, j < 2 → w.cell? ⟨g, i * 2 + j, none⟩ = some (.int .i64 (L[i].getD j 0))
theorem OwnV2.vs {lo : Nat} {w : World} {v : Value} {L : List (List Int)} (h : OwnV2 lo w v L) (hL : ∀ zs ∈ L, zs.length = 2) (hl : L.length ≤ 1000000) : Vs2 w v L := by
  rcases h.2 with ⟨rfl, h0⟩ | ⟨g, cap, cur, rfl, hb, hg, hn, hm, hs, ht⟩
  · have hL : L = [] := List.eq_nil_of_length_eq_zero h0
    subst hL
    exact ⟨none, 0, rfl, by simp, fun i hi => absurd hi (Nat.not_lt_zero i)⟩
  · refine ⟨_, cap, rfl, by omega, fun i hi => ⟨g, rfl, fun j hj => ?_⟩⟩
    have h' : w.ownsRow lo 71 2 (.slice (some ⟨g, 0, none⟩) L.length cap) L.length (vCells2 L) := ⟨h.1, .inr ⟨g, cap, cur, rfl, hb, hg, hn, hm, hs, ht⟩⟩
    exact (h'.cellAt (i * 2 + j) (by omega)).trans (vCells2_at L hL i hi j hj)
set_option maxRecDepth 20000 in
set_option maxHeartbeats 4000000 in
theorem listsOf2_any (v : Value) (L : List (List Int)) (w : World) (hb : L.length ≤ 1000000) (hN : ∀ zs ∈ L, zs.length = 2) (h : Vs2 w v L) :
    Calls Try.prog 115 #[v] w fun e w' => MadeRows w L e w' := by
  obtain ⟨a, cap, rfl, hl, hc⟩ := h
  have HC := hid hc; clear hc
  have HN := hid hN; clear hN
  obtain ⟨i0, hi, hz0, hz1, hz2⟩ := info_parts Try.infoInts
  have HB := hid hz2
  go_enter Try.func115, Try.ntmps115
  go_wp2_with (at_make; refine wpList_make_full _ rfl _ _ 25 rfl w.heap.size 33 i0 (.slice none 0 0) 1 Try.underlying25 hi hz0 hz1 _ _ _ _ L.length rfl rfl rfl rfl ?b2 ?b3 ?b4 ?_)
  case b2 => rw [HB.out]; omega
  case b3 => unfold maxLen; omega
  case b4 => exact Nat.le_refl _
  intro w1 hown hgrow
  have hL : Later w w1 := (Below.refl _ _).grown hgrow (Nat.le_refl _) (by simp)
  have hF : RowsTo w.heap.size w1 (.slice (some ⟨w.heap.size, 0, none⟩) L.length L.length) L.length 0 L := RowsTo.start hown
  clear hown hgrow
  go_wp2
  go_loopw [11] (fun i wr => ∃ k : Nat, k ≤ L.length ∧ i = .int .i64 k ∧ RowsTo w.heap.size wr (.slice (some ⟨w.heap.size, 0, none⟩) L.length L.length) L.length k L ∧ Later w wr)
    (fun i _ => L.length - (intOf i).toNat)
  case atStart => exact ⟨0, Nat.zero_le _, rfl, hF, hL⟩
  case round =>
    clear hF hL
    obtain ⟨k, hk, rfl, hFk, hLk⟩ := hrel
    by_cases hlt : k < L.length
    · obtain ⟨g, rfl, d⟩ := HC.out k hlt
      have hxl := HN.out L[k] (List.getElem_mem hlt)
      have HT := hid (show L[k] = L.getD k [] by simp [hlt])
      obtain ⟨zs, hzs⟩ : ∃ zs, L[k] = zs := ⟨_, rfl⟩
      rw [hzs] at d hxl HT
      obtain ⟨a0, a1, rfl⟩ : ∃ a0 a1, zs = [a0, a1] := by
        match zs, hxl with
        | [a0, a1], _ => exact ⟨a0, a1, rfl⟩
      have d0 : wr.cell? ⟨g, k * 2, none⟩ = some (.int .i64 a0) := hLk.cell (d 0 (by omega))
      have d1 : wr.cell? ⟨g, k * 2 + 1, none⟩ = some (.int .i64 a1) := hLk.cell (d 1 (by omega))
      clear hzs d hxl
      have HF := hid hFk
      have HL := hid hLk
      clear hFk hLk
      go_wp2_with fail
      refine (list2_any a0 a1 _).mono ?_
      rintro e w2 ⟨v2, rfl, hown2, hL2⟩
      have hLA := (Later.alloc wr (.cells #[.int .i64 a0, .int .i64 a1] 71)).trans hL2
      have hown3 := (hown2.wide (Later.alloc wr (.cells #[.int .i64 a0, .int .i64 a1] 71)).size (Nat.le_refl _))
      obtain ⟨g2, cg2, rfl, _⟩ := hown2.shape
      have hF3 := HF.out.step hlt HL.out.size hLA (by rw [← HT.out]; exact hown3)
      obtain ⟨⟨u0, hu0⟩, hfr⟩ := HF.out.at_later hLA hlt
      have hL3 : Later w w2 := HL.out.trans hLA
      have HF3 := hid hF3
      have HL3 := hid (show Later w (w2.setCell ⟨w.heap.size, k, none⟩ _) from Below.setCell hL3 (Nat.le_refl _) (.slice g2 [a0, a1].length cg2))
      clear hF3 hown2 hown3 hL2 hL3 hLA d0 d1
      go_wp2
      go_roundw
      case rel => exact ⟨k + 1, hlt, by go_num, by simpa [hlt] using HF3.out, by simpa [hlt] using HL3.out⟩
      case measure => simp [intOf]; omega
    · go_wp2
      go_ret
      have : k = L.length := by omega
      subst this
      exact ⟨_, rfl, RowsTo.full hFk, hLk⟩
set_option maxHeartbeats 1000000 in
theorem allWith2 (n : Nat) (most : Int) (w : World) (hn : n ≤ 1000000) (hm : inB 0 most n = true) :
    Calls Try.prog 71 #[.int .i64 n, .int .i64 most] w fun e w' => RowsAns w (some (Sq.sqL 2 n n)) e w' := by
  have HM := hid hm
  have HB := hid (Bx.new w (.int .i64 n) 3)
  have HLA := hid (Later.alloc w (.cells #[.int .i64 n] 3))
  have HC := hid (collect2 n w.heap.size (w.alloc (.cells #[.int .i64 n] 3)) hn HB.out.lt HB.out.c)
  have HLen := hid (sq2_len hn n)
  have HN := hid (fun (zs : List Int) (hz : zs ∈ Sq.sqL 2 n n) => (Sq.sqL_mem 2 n n zs hz).1)
  obtain ⟨L, hL⟩ : ∃ L, Sq.sqL 2 n n = L := ⟨_, rfl⟩
  rw [hL] at HC HLen HN ⊢
  clear hm hL
  go_enter Try.func71, Try.ntmps71
  go_wp2_with (first
    | (go_at_call 67; refine (isSum_as _ _ _ _ HM.out).mono ?_; rintro e w2 ⟨rfl, rfl⟩)
    | (go_at_call 114; refine (withSum2_any n _).mono ?_; rintro e w2 ⟨rfl, rfl⟩)
    | (go_at_call 116; refine HC.out.mono ?_; rintro e w3 ⟨v, rfl, hO, hL⟩; have HO := hid hO; have HL := hid (HLA.out.trans hL); clear hO hL)
    | (go_at_call 115; refine (listsOf2_any v L w3 HLen.out HN.out (HO.out.vs HN.out HLen.out)).mono ?_; rintro e w4 ⟨v4, rfl, hO4, hL4⟩; have HO4 := hid (hO4.wide HL.out.size (Nat.le_refl _)); have HL4 := hid (HL.out.trans hL4); clear hO4 hL4))
  go_ret2
  exact ⟨v4, rfl, HO4.out, HL4.out⟩
set_option maxHeartbeats 1000000 in
theorem allWith2_no (n most : Int) (w : World) (hm : inB 0 most n = false) :
    Calls Try.prog 71 #[.int .i64 n, .int .i64 most] w fun e w' => RowsAns w none e w' := by
  have HM := hid hm
  clear hm
  go_enter Try.func71, Try.ntmps71
  go_wp2_with (go_at_call 67; refine (isSum_as _ _ _ _ HM.out).mono ?_; rintro e w2 ⟨rfl, rfl⟩)
  go_ret2
  exact ⟨_, rfl, OwnRows.noneH _ _ _, Later.refl _⟩
set_option maxHeartbeats 1000000 in
theorem implAllTwoSquares_any (n : Int) (w : World) : Calls Try.prog 18 #[.int .i64 n] w fun e w' => RowsAns w (allAns 2 1000000 n) e w' := by
  by_cases h : 0 ≤ n ∧ n ≤ 1000000
  · obtain ⟨m, rfl⟩ : ∃ m : Nat, n = (m : Int) := ⟨n.toNat, by omega⟩
    have HA := hid (show allAns 2 1000000 (m : Int) = some (Sq.sqL 2 m m) by unfold allAns; rw [if_pos h, Int.toNat_natCast])
    have HF := hid (fun w => allWith2 m 1000000 w (by omega) (inB_true h))
    rw [HA.out]
    clear h HA
    go_enter Try.func18, Try.ntmps18
    go_wp2_with (go_at_call 71; refine (HF.out _).mono ?_; rintro e w2 ⟨v, rfl, hO, hL⟩; have HO := hid hO; have HL := hid hL; clear hO hL)
    go_ret2
    exact ⟨v, rfl, HO.out, HL.out⟩
  · have HA := hid (show allAns 2 1000000 n = none from if_neg h)
    have HB := hid (inB_false h)
    have HF := hid (fun w => allWith2_no n 1000000 w HB.out)
    rw [HA.out]
    clear h HA
    go_enter Try.func18, Try.ntmps18
    go_wp2_with (go_at_call 71; refine (HF.out _).mono ?_; rintro e w2 ⟨v, rfl, hO, hL⟩; have HO := hid hO; have HL := hid hL; clear hO hL)
    go_ret2
    exact ⟨v, rfl, HO.out, HL.out⟩
end Go.Proofs.Ytofmmegpadojlaa
