/- Lists of 2 squares with a sum in the program: the iterator, and the first list. -/
import Derived.Test.YtofmmegpadojlaaSqV2
import Derived.Test.YtofmmegpadojlaaSqX
namespace Go.Proofs.Ytofmmegpadojlaa
open Go.RowKit Go.Shelf

theorem withSum2_any (n : Int) (w : World) :
    Calls Try.prog 114 #[.int .i64 n] w fun e w' => e = .returned (.func (.func 134) #[] #[.pointer (some ⟨w.heap.size, 0, none⟩)]) ∧ w' = w.alloc (.cells #[.int .i64 n] 3) := by
  go_enter Try.func114, Try.ntmps114
  go_wp2_with fail
  go_ret
  exact ⟨rfl, rfl⟩
set_option maxRecDepth 20000 in
set_option maxHeartbeats 2000000 in
theorem seq2 (n B : Nat) (w : World) (hn : n ≤ 1000000) (hB : B < w.heap.size) (hc : w.cell? ⟨B, 0, none⟩ = some (.int .i64 n)) :
    SeqL 134 #[.pointer (some ⟨B, 0, none⟩)] (Sq.sqL 2 n n) w := by
  intro l J Jx W hW hJ hY h0
  have c0 := (hW.cell (p := ⟨B, 0, none⟩) hB).trans hc
  have HC := hid (each2_0 hJ hY (fun _ => False) [] n n W h0 hn hn (fun b hb => hb.elim) (by simp))
  rw [show (Sq.sqL 2 n n).map (([] : List Int) ++ ·) = Sq.sqL 2 n n by simp] at HC
  show Calls Try.prog _ #[.func (.yield l) #[] #[], .pointer (some ⟨B, 0, none⟩)] W _
  go_enter Try.func134, Try.ntmps134
  go_wp2_with (go_at_call 135; refine HC.out.mono ?_; rintro e w2 (⟨rfl, hJ2, hk2⟩ | ⟨rfl, q, hq, hx⟩))
  · refine bodyPost_end (v := .tuple #[]) (by simp [results, Try.results134, go_sem]) rfl ?_
    exact ⟨⟨_, rfl⟩, .inl (by simpa using hJ2)⟩
  · refine bodyPost_end (v := .tuple #[]) (by simp [results, Try.results134, go_sem]) rfl ?_
    exact ⟨⟨_, rfl⟩, .inr ⟨q, hq, by simpa using hx⟩⟩
theorem enter2 : ∀ args w, (callFunc 134 args).run Try.prog w = .ok (.enter 134 args) w := enters_of Try.func134 (by kernel_rfl) rfl
attribute [local go_sem] Oper.semAt_some in
set_option maxRecDepth 100000 in
set_option maxHeartbeats 4000000 in
theorem first2_in (n : Nat) (most : Int) (w : World) (hn : n ≤ 1000000) (hm : inB 0 most n = true) :
    Calls Try.prog 70 #[.int .i64 n, .int .i64 most] w fun e w' => IntsAns w ((Sq.sqL 2 n n).head?) e w' := by
  refine (callsIn_wide (n := 6)).1 ?_
  refine callsIn_of_wp_marks Try.func70 rfl trivial ?_ rfl
  simp only [Try.ntmps70, List.size_toArray, List.length_cons, List.length_nil, Nat.reduceAdd, Nat.reduceSub, Array.replicate_succ, Array.replicate_zero, List.push_toArray, List.append_toArray, List.nil_append, List.cons_append]
  gi_wp2_with (first
    | (refine ⟨trivial, ?_⟩; gi_at_call 67; refine (callsIn_wide.2 (isSum_as _ _ _ _ hm)).mono ?_; rintro e w2 ⟨rfl, rfl⟩)
    | (refine ⟨trivial, ?_⟩; gi_at_call 114; refine (callsIn_wide.2 (withSum2_any n _)).mono ?_; rintro e w2 ⟨rfl, rfl⟩))
  have HB4 := hid (((Bx.new w (.slice none 0 0) 33).alloc (.cells #[.bool false] 4)).alloc (.cells #[.int .i64 n] 3))
  have HB5 := hid ((Bx.new (w.alloc (.cells #[.slice none 0 0] 33)) (.bool false) 4).alloc (.cells #[.int .i64 n] 3))
  have HB6 := hid (Bx.new ((w.alloc (.cells #[.slice none 0 0] 33)).alloc (.cells #[.bool false] 4)) (.int .i64 n) 3)
  have HLW := hid (((Later.alloc w (.cells #[.slice none 0 0] 33)).trans (Later.alloc _ (.cells #[.bool false] 4))).trans (Later.alloc _ (.cells #[.int .i64 n] 3)))
  have HS := hid (show (((w.alloc (.cells #[.slice none 0 0] 33)).alloc (.cells #[.bool false] 4)).alloc (.cells #[.int .i64 n] 3)).heap.size = w.heap.size + 3 by simp)
  simp only [World.size_alloc] at HB5 HB6
  obtain ⟨W0, hW0⟩ : ∃ W0, ((w.alloc (.cells #[.slice none 0 0] 33)).alloc (.cells #[.bool false] 4)).alloc (.cells #[.int .i64 n] 3) = W0 := ⟨_, rfl⟩
  rw [hW0] at HB4 HB5 HB6 HLW HS ⊢
  obtain ⟨L, hL⟩ : ∃ L, Sq.sqL 2 n n = L := ⟨_, rfl⟩
  have HSQ := hid (seq2 n (w.heap.size + 1 + 1) W0 hn HB6.out.lt HB6.out.c)
  have HM := hid (fun (zs : List Int) (hz : zs ∈ Sq.sqL 2 n n) => (Sq.sqL_mem 2 n n zs hz).1)
  rw [hL] at HSQ HM
  clear hW0
  refine rangeL (p0 := 13) (L := L) rfl rfl enter2 HSQ.out
    (fun P pre W => pre = [] ∧ Bx W w.heap.size (.slice none 0 0) ∧ Bx W (w.heap.size + 1) (.bool false) ∧ ¬ P w.heap.size ∧ ¬ P (w.heap.size + 1) ∧ Later w W ∧ w.heap.size + 3 ≤ W.heap.size ∧ ∀ b, P b → w.heap.size ≤ b)
    (fun c pre W => c = .ret ∧ ∃ x v, pre = [x] ∧ Bx W w.heap.size v ∧ OwnInts w.heap.size W.heap.size W v x ∧ Bx W (w.heap.size + 1) (.bool true) ∧ Later w W)
    ?carr ?iput ?xput ?ialloc ?start 6 ?round ?done ?stop
  case carr => exact
    { new := fun P s W cs t ⟨h1, h2, h3, h4, h5, h6, h7, h8⟩ => ⟨h1, h2.alloc _, h3.alloc _, fun h => h.elim h4 (fun e => by omega), fun h => h.elim h5 (fun e => by omega), h6.trans (Later.alloc _ _), by rw [World.size_alloc]; omega, fun b h => h.elim (h8 b) (fun e => by omega)⟩
      set := fun P s W b k v ⟨h1, h2, h3, h4, h5, h6, h7, h8⟩ hb => ⟨h1, h2.set b k v (fun e => h4 (by rw [e]; exact hb)), h3.set b k v (fun e => h5 (by rw [e]; exact hb)), h4, h5, Below.setCell h6 (h8 b hb) v, by simpa using h7, h8⟩
      weak := fun P P' s W ⟨h1, h2, h3, h4, h5, h6, h7, h8⟩ hp => ⟨h1, h2, h3, fun h => h4 (hp _ h), fun h => h5 (hp _ h), h6, h7, fun b hb => h8 b (hp b hb)⟩ }
  case iput =>
    rintro P s W k o ⟨h1, h2, h3, h4, h5, h6, h7, h8⟩ hk _
    rw [HS.out] at hk
    exact ⟨h1, h2.put k o (by omega), h3.put k o (by omega), h4, h5, below_put h6 (by omega) (by omega) o, by simpa using h7, h8⟩
  case xput =>
    rintro c s W k o ⟨rfl, x, v, h1, h2, h3, h4, h5⟩ hk hn
    rw [HS.out] at hk
    refine ⟨rfl, x, v, h1, h2.put k o (by omega), ⟨ownsRow_keep h3.1 fun b hb => World.putObj_heap_other fun e => ?_, by simpa using h3.2⟩, h4.put k o (by omega), below_put h5 (by omega) h5.size o⟩
    obtain ⟨cur, hc⟩ := ownsRow_block h3.1 hb
    rw [e] at hc
    have := hn _ hc
    cases this
  case ialloc =>
    rintro s W o ⟨h1, h2, h3, h4, h5, h6, h7, h8⟩ _
    exact ⟨h1, h2.alloc _, h3.alloc _, h4, h5, h6.trans (Later.alloc _ _), by rw [World.size_alloc]; omega, h8⟩
  case start => exact ⟨rfl, HB4.out, HB5.out, id, id, HLW.out, by rw [HS.out]; omega, fun b h => h.elim⟩
  case round =>
    rintro m l D P pre x W hD hl hlt hlc hDc hPl hPD ⟨rfl, h2, h3, h4, h5, h6, h7, h8⟩ hx
    have hxl := HM.out x (prefix_mem hx)
    obtain ⟨a0, a1, rfl⟩ : ∃ a0 a1, x = [a0, a1] := by
      match x, hxl with
      | [a0, a1], _ => exact ⟨a0, a1, rfl⟩
    simp only [encV, List.map_cons, List.map_nil]
    gi_wp2
    refine ⟨Below.heap_alloc _ _ _ hlt, ?_⟩
    rintro o W2 hW2 ho
    have hBl : W.heap.size ≠ l := by omega
    have hl2 : W2.heap.size = W.heap.size + 1 := by rw [hW2]; simp
    have HX := hid (show SBox W2 W.heap.size [a0, a1] from by rw [hW2]; exact (SBox.new W [a0, a1] #[.int .i64 a0, .int .i64 a1] 71 rfl).keep (World.putObj_heap_other hBl))
    have H2 := hid (show Bx W2 w.heap.size (.slice none 0 0) by rw [hW2]; exact (h2.alloc _).put _ _ (by rw [hl, HS.out]; omega))
    have H3 := hid (show Bx W2 (w.heap.size + 1) (.bool false) by rw [hW2]; exact (h3.alloc _).put _ _ (by rw [hl, HS.out]; omega))
    have H6 := hid (show Later w W2 by rw [hW2]; exact below_put (h6.trans (Later.alloc _ _)) (by rw [hl, HS.out]; omega) (by rw [World.size_alloc]; omega) o)
    have HD := hid (show W2.heap[D]? = W.heap[D]? by rw [hW2]; exact (World.putObj_heap_other (by omega)).trans (Below.heap_alloc _ _ _ (by omega)))
    have hlD : l = w.heap.size + 4 ∧ D = w.heap.size + 3 := by rw [hl, hD, HS.out]; exact ⟨rfl, rfl⟩
    have HLD := hid hlD
    have hSz : W.heap.size < W2.heap.size := by omega
    have h0s : w.heap.size + 3 ≤ W.heap.size := h7
    clear hW2 h2 h3 h6 hl hD hlD hl2 hlc hDc
    have c0 := (HX.out 0 a0 rfl).1
    have c1 := (HX.out 1 a1 rfl).1
    gi_wp2
    refine ⟨trivial, (fun h => (by cases h)), ?_⟩
    refine (CallsIn.inRound l (callsIn_wide.2 (list2_any a0 a1 W2))).mono ?_
    rintro e w3 ⟨v, rfl, hO, hL3⟩
    obtain ⟨p, c, rfl, _⟩ := hO.shape
    have d4 := (H2.out.keep (hL3.block _ (by omega)))
    have d5 := (H3.out.keep (hL3.block _ (by omega)))
    have d4c := d4.c
    have d4f := d4.f
    have d5c := d5.c
    have d5f := d5.f
    gi_wp2
    obtain ⟨hl4, hd3⟩ := HLD.out
    refine ⟨?_, ?_, rfl, [a0, a1], .slice p 2 c, rfl, ?_, ?_, ?_, ?_⟩
    · exact ((heap_setCell_other _ ⟨w.heap.size + 1, 0, none⟩ l _ (by simp only; omega)).trans (heap_setCell_other _ ⟨w.heap.size, 0, none⟩ l _ (by simp only; omega))).trans (hL3.block l (by omega))
    · exact (((heap_setCell_other _ ⟨w.heap.size + 1, 0, none⟩ D _ (by simp only; omega)).trans (heap_setCell_other _ ⟨w.heap.size, 0, none⟩ D _ (by simp only; omega))).trans (hL3.block D (by omega))).trans HD.out
    · exact (d4.store _).set _ _ _ (by omega)
    · refine ⟨ownsRow_keep (ownsRow_base hO.1 (by omega)) fun b hb => ?_, by simpa using hO.2⟩
      have h9 := (hO.1.lt b hb).1
      exact (heap_setCell_other _ ⟨w.heap.size + 1, 0, none⟩ b _ (by simp only; omega)).trans (heap_setCell_other _ ⟨w.heap.size, 0, none⟩ b _ (by simp only; omega))
    · exact (d5.set _ _ _ (by omega)).store _
    · exact Below.setCell (Below.setCell (H6.out.trans hL3) (Nat.le_refl _) _) (by simp only; omega) _
  case done =>
    rintro W ⟨h1, h2, h3, _, _, h6, h7, _⟩ hK hlt
    have HE := hid (show (Sq.sqL 2 n n).head? = none by rw [hL, h1]; rfl)
    rw [hL] at HE
    have d4c := h2.c
    have d4f := h2.f
    have d5c := h3.c
    have d5f := h3.f
    gi_wp2
    have hKf : ((W.setCell ⟨w.heap.size, 0, none⟩ (.slice none 0 0)).setCell ⟨w.heap.size + 1, 0, none⟩ (.bool false)).heap[W0.heap.size]? = some (.deferred (some [])) :=
      ((heap_setCell_other _ ⟨w.heap.size + 1, 0, none⟩ _ _ (by have := HS.out; simp only; omega)).trans (heap_setCell_other _ ⟨w.heap.size, 0, none⟩ _ _ (by have := HS.out; simp only; omega))).trans hK
    have g4 := ((h2.store (.slice none 0 0)).set (w.heap.size + 1) 0 (.bool false) (by omega)).put W0.heap.size (.deferred none) (by have := HS.out; omega)
    have g5 := ((h3.set w.heap.size 0 (.slice none 0 0) (by omega)).store (.bool false)).put W0.heap.size (.deferred none) (by have := HS.out; omega)
    have g4c := g4.c
    have g5c := g5.c
    have HLf := hid (below_put (Below.setCell (Below.setCell (p := ⟨w.heap.size, 0, none⟩) h6 (Nat.le_refl _) (.slice none 0 0)) (p := ⟨w.heap.size + 1, 0, none⟩) (by simp only; omega) (.bool false)) (k := W0.heap.size) (by have := HS.out; omega) (by simp; omega) (.deferred none))
    refine ⟨by simp, .inl ⟨_, _, rfl, run_takeDeferred hKf, ?_⟩⟩
    refine ⟨.tuple #[.slice none 0 0, .bool false], ?_, ?_⟩
    · rw [results_cells2 rfl]
      go_simp
    · exact ⟨_, rfl, ⟨World.ownsRow_nil _ _ _ _, fun b hb => by simp [Value.ownBlock] at hb⟩, HLf.out⟩
  case stop =>
    rintro c q W hq ⟨rfl, x, v, rfl, h2, h3, h4, h5⟩ hK hlt
    have HE := hid (show (Sq.sqL 2 n n).head? = some x by rw [hL]; obtain ⟨t, ht⟩ := hq; rw [← ht]; rfl)
    gi_wp2
    have g4 := h2.put W0.heap.size (.deferred none) (by have := HS.out; omega)
    have g5 := h4.put W0.heap.size (.deferred none) (by have := HS.out; omega)
    have g4c := g4.c
    have g5c := g5.c
    have HLf := hid (below_put h5 (k := W0.heap.size) (by have := HS.out; omega) h5.size (.deferred none))
    refine ⟨by simp, .inl ⟨_, _, rfl, run_takeDeferred hK, ?_⟩⟩
    refine ⟨.tuple #[v, .bool true], ?_, ?_⟩
    · rw [results_cells2 rfl]
      go_simp
    · rw [HE.out]
      refine ⟨v, rfl, ⟨ownsRow_keep h3.1 fun b hb => World.putObj_heap_other fun e => ?_, by simpa using h3.2⟩, HLf.out⟩
      obtain ⟨cur, hc⟩ := ownsRow_block h3.1 hb
      rw [e, hK] at hc
      cases hc
end Go.Proofs.Ytofmmegpadojlaa
